/-
  Contracts: the program's Acked.
-/
import Derived.Test.YtbclpjfjkgehaaaEcnG
import Derived.Deep.Cut
import Derived.Deep.CutRange
namespace Go.Proofs.Ytbclpjfjkgehaaa.Ecn
open Go.RowKit EcnM Wd
set_option linter.unusedVariables false
set_option linter.unusedSimpArgs false

/-- A count's box, a frame's box, a result's box; since a first world nothing has turned. -/
structure Th (t : TypeId) (w : World) (p q g : Nat) (x : Cn) (r : Rs) (y : Fr) (z : Cn) (W : World) : Prop where
  P : Blk W p t (cnA x)
  Q : Blk W q 27 (akA r y)
  G : Blk W g t (cnA z)
  k : Kept w W
  p0 : w.heap.size ≤ p
  g0 : w.heap.size ≤ g
  pg : p < g
  qg : q < g
section
variable {t : TypeId} {w W W' : World} {p q g : Nat} {x : Cn} {r : Rs} {y : Fr} {z : Cn}
theorem Th.on (h : Th t w p q g x r y z W) (k : Kept W W') : Th t w p q g x r y z W' := ⟨h.P.kept k, h.Q.kept k, h.G.kept k, h.k.trans k, h.p0, h.g0, h.pg, h.qg⟩
theorem Th.five (h : Th t w p q g x r y z W) (z' : Cn) : Th t w p q g x r y z' (((((W.setCell ⟨g, 0, none⟩ (.int .i64 z'.s)).setCell ⟨g, 1, none⟩ (.int .i64 z'.a)).setCell ⟨g, 2, none⟩ (.int .i64 z'.b)).setCell ⟨g, 3, none⟩ (.int .i64 z'.c)).setCell ⟨g, 4, none⟩ (.bool z'.f)) :=
  ⟨five_far h.P (by have := h.pg; omega) _ _ _ _ _, five_far h.Q (by have := h.qg; omega) _ _ _ _ _, five_blk h.G z', kept_five h.k h.g0 _ _ _ _ _, h.p0, h.g0, h.pg, h.qg⟩
theorem Th.seen (h : Th t w p q g x r y z W) (a b c : Int) : Th t w p q g x r y ⟨z.s, a, b, c, z.f⟩ (((W.setCell ⟨g, 1, none⟩ (.int .i64 a)).setCell ⟨g, 2, none⟩ (.int .i64 b)).setCell ⟨g, 3, none⟩ (.int .i64 c)) :=
  ⟨((h.P.far (p := ⟨g, 1, none⟩) (by have := h.pg; show p ≠ g; omega) _).far (p := ⟨g, 2, none⟩) (by have := h.pg; show p ≠ g; omega) _).far (p := ⟨g, 3, none⟩) (by have := h.pg; show p ≠ g; omega) _, ((h.Q.far (p := ⟨g, 1, none⟩) (by have := h.qg; show q ≠ g; omega) _).far (p := ⟨g, 2, none⟩) (by have := h.qg; show q ≠ g; omega) _).far (p := ⟨g, 3, none⟩) (by have := h.qg; show q ≠ g; omega) _, ((h.G.set_ 1 _).set_ 2 _).set_ 3 _, ((h.k.setCell (p := ⟨g, 1, none⟩) h.g0 _).setCell (p := ⟨g, 2, none⟩) h.g0 _).setCell (p := ⟨g, 3, none⟩) h.g0 _, h.p0, h.g0, h.pg, h.qg⟩
end
theorem Th.mk_ (t : TypeId) (w : World) (x : Cn) (r : Rs) (y : Fr) : ∃ W, W = (((w.alloc (.cells (cnA x) t)).alloc (.cells (akA r y) 27)).alloc (.cells zA t)) ∧ Th t w w.heap.size (w.heap.size + 1) (w.heap.size + 1 + 1) x r y zero W := by
  obtain ⟨W, h1, h2, h3, h4, h5⟩ := three_box w t 27 t (cnA x) (akA r y) zA
  exact ⟨W, h1, h2, h3, h4, h5, Nat.le_refl _, by omega, by omega, by omega⟩
/-- A literal row of one number that a call lays. -/
theorem one_lit (W : World) (n : Int) : Calls Try.prog 18 #[.slice (some ⟨W.heap.size, 0, none⟩) 1 1] (W.alloc (.cells #[.int .i64 n] 3)) (Same (.bool (decide (nm n))) (W.alloc (.cells #[.int .i64 n] 3))) := one_nums (Blk.new W 3 #[.int .i64 n])
set_option maxRecDepth 100000 in
set_option maxHeartbeats 2000000 in
theorem acked_bad (x : Cn) (r : Rs) (y : Fr) (n : Int) (hx : ¬ Ok x) (w : World) : Calls Try.prog 11 #[cnV x, akV r y, .int .i64 n] w (Gives (.tuple #[cnV zero, .bool false, .int .i64 2]) w) := by
  obtain ⟨W, hW, T0⟩ := Th.mk_ 24 w x r y
  have D := Lib.hid T0
  have hg0 : w.heap.size + 1 + 1 < W.heap.size := T0.G.lt
  clear T0
  have k1 := Lib.hid (fun W => check_any x W)
  rw [chk_no hx] at k1
  clear hx
  have c0 := D.out.P.cell 0
  have c1 := D.out.P.cell 1
  have c2 := D.out.P.cell 2
  have c3 := D.out.P.cell 3
  have c4 := D.out.P.cell 4
  have a0 := D.out.Q.cell 0
  have a1 := D.out.Q.cell 1
  have a2 := D.out.Q.cell 2
  have a3 := D.out.Q.cell 3
  have a4 := D.out.Q.cell 4
  have a5 := D.out.Q.cell 5
  have d0 := D.out.G.cell 0
  have d1 := D.out.G.cell 1
  have d2 := D.out.G.cell 2
  have d3 := D.out.G.cell 3
  have d4 := D.out.G.cell 4
  have e0 := D.out.G.frozen 0
  have e1 := D.out.G.frozen 1
  have e2 := D.out.G.frozen 2
  have e3 := D.out.G.frozen 3
  have e4 := D.out.G.frozen 4
  have b0 := D.out.P.frozen 0
  have b1 := D.out.P.frozen 1
  have b2 := D.out.P.frozen 2
  have b3 := D.out.P.frozen 3
  have b4 := D.out.P.frozen 4
  go_enter Try.func11, Try.ntmps11
  go_wp2_with fail
  rw [← hW]
  clear hW
  refine (k1.out _).mono ?_
  rintro e w1 ⟨rfl, hk⟩
  have D := Lib.hid (D.out.on hk)
  clear c0 c1 c2 c3 c4 a0 a1 a2 a3 a4 a5 d0 e0 b0 d1 e1 b1 d2 e2 b2 d3 e3 b3 d4 e4 b4
  clear hk
  have c0 := D.out.P.cell 0
  have c1 := D.out.P.cell 1
  have c2 := D.out.P.cell 2
  have c3 := D.out.P.cell 3
  have c4 := D.out.P.cell 4
  have a0 := D.out.Q.cell 0
  have a1 := D.out.Q.cell 1
  have a2 := D.out.Q.cell 2
  have a3 := D.out.Q.cell 3
  have a4 := D.out.Q.cell 4
  have a5 := D.out.Q.cell 5
  have d0 := D.out.G.cell 0
  have d1 := D.out.G.cell 1
  have d2 := D.out.G.cell 2
  have d3 := D.out.G.cell 3
  have d4 := D.out.G.cell 4
  have e0 := D.out.G.frozen 0
  have e1 := D.out.G.frozen 1
  have e2 := D.out.G.frozen 2
  have e3 := D.out.G.frozen 3
  have e4 := D.out.G.frozen 4
  have b0 := D.out.P.frozen 0
  have b1 := D.out.P.frozen 1
  have b2 := D.out.P.frozen 2
  have b3 := D.out.P.frozen 3
  have b4 := D.out.P.frozen 4
  have hg0 : w.heap.size + 1 + 1 < w1.heap.size := D.out.G.lt
  go_wp2_with fail
  refine bodyPost_ret (v := .tuple #[cnV zero, .bool false, .int .i64 2]) ?_ rfl ⟨rfl, ?_⟩
  · simp [results, Try.f11, go_sem, d0, d1, d2, d3, d4, zero]
  · exact kept_five D.out.k D.out.g0 _ _ _ _ _

set_option maxRecDepth 100000 in
set_option maxHeartbeats 2000000 in
theorem acked_n (x : Cn) (r : Rs) (y : Fr) (n : Int) (hx : Ok x) (hn : ¬ nm n) (w : World) : Calls Try.prog 11 #[cnV x, akV r y, .int .i64 n] w (Gives (.tuple #[cnV zero, .bool false, .int .i64 9]) w) := by
  obtain ⟨W, hW, T0⟩ := Th.mk_ 24 w x r y
  have D := Lib.hid T0
  have hg0 : w.heap.size + 1 + 1 < W.heap.size := T0.G.lt
  clear T0
  have k1 := Lib.hid (fun W => check_any x W)
  rw [chk_ok hx] at k1
  have k2 := Lib.hid (fun W => one_lit W n)
  rw [decide_eq_false hn] at k2
  clear hx hn
  have c0 := D.out.P.cell 0
  have c1 := D.out.P.cell 1
  have c2 := D.out.P.cell 2
  have c3 := D.out.P.cell 3
  have c4 := D.out.P.cell 4
  have a0 := D.out.Q.cell 0
  have a1 := D.out.Q.cell 1
  have a2 := D.out.Q.cell 2
  have a3 := D.out.Q.cell 3
  have a4 := D.out.Q.cell 4
  have a5 := D.out.Q.cell 5
  have d0 := D.out.G.cell 0
  have d1 := D.out.G.cell 1
  have d2 := D.out.G.cell 2
  have d3 := D.out.G.cell 3
  have d4 := D.out.G.cell 4
  have e0 := D.out.G.frozen 0
  have e1 := D.out.G.frozen 1
  have e2 := D.out.G.frozen 2
  have e3 := D.out.G.frozen 3
  have e4 := D.out.G.frozen 4
  have b0 := D.out.P.frozen 0
  have b1 := D.out.P.frozen 1
  have b2 := D.out.P.frozen 2
  have b3 := D.out.P.frozen 3
  have b4 := D.out.P.frozen 4
  go_enter Try.func11, Try.ntmps11
  go_wp2_with fail
  rw [← hW]
  clear hW
  refine (k1.out _).mono ?_
  rintro e w1 ⟨rfl, hk⟩
  have D := Lib.hid (D.out.on hk)
  clear c0 c1 c2 c3 c4 a0 a1 a2 a3 a4 a5 d0 e0 b0 d1 e1 b1 d2 e2 b2 d3 e3 b3 d4 e4 b4
  clear hk
  have c0 := D.out.P.cell 0
  have c1 := D.out.P.cell 1
  have c2 := D.out.P.cell 2
  have c3 := D.out.P.cell 3
  have c4 := D.out.P.cell 4
  have a0 := D.out.Q.cell 0
  have a1 := D.out.Q.cell 1
  have a2 := D.out.Q.cell 2
  have a3 := D.out.Q.cell 3
  have a4 := D.out.Q.cell 4
  have a5 := D.out.Q.cell 5
  have d0 := D.out.G.cell 0
  have d1 := D.out.G.cell 1
  have d2 := D.out.G.cell 2
  have d3 := D.out.G.cell 3
  have d4 := D.out.G.cell 4
  have e0 := D.out.G.frozen 0
  have e1 := D.out.G.frozen 1
  have e2 := D.out.G.frozen 2
  have e3 := D.out.G.frozen 3
  have e4 := D.out.G.frozen 4
  have b0 := D.out.P.frozen 0
  have b1 := D.out.P.frozen 1
  have b2 := D.out.P.frozen 2
  have b3 := D.out.P.frozen 3
  have b4 := D.out.P.frozen 4
  have hg0 : w.heap.size + 1 + 1 < w1.heap.size := D.out.G.lt
  go_wp2_with fail
  have D := Lib.hid (D.out.on ((Kept.refl _).alloc (.cells #[.int .i64 n] 3)))
  refine (k2.out _).mono ?_
  rintro e w' ⟨rfl, rfl⟩
  clear c0 c1 c2 c3 c4 a0 a1 a2 a3 a4 a5 d0 e0 b0 d1 e1 b1 d2 e2 b2 d3 e3 b3 d4 e4 b4
  generalize w1.alloc (.cells #[.int .i64 n] 3) = U at *
  have c0 := D.out.P.cell 0
  have c1 := D.out.P.cell 1
  have c2 := D.out.P.cell 2
  have c3 := D.out.P.cell 3
  have c4 := D.out.P.cell 4
  have a0 := D.out.Q.cell 0
  have a1 := D.out.Q.cell 1
  have a2 := D.out.Q.cell 2
  have a3 := D.out.Q.cell 3
  have a4 := D.out.Q.cell 4
  have a5 := D.out.Q.cell 5
  have d0 := D.out.G.cell 0
  have d1 := D.out.G.cell 1
  have d2 := D.out.G.cell 2
  have d3 := D.out.G.cell 3
  have d4 := D.out.G.cell 4
  have e0 := D.out.G.frozen 0
  have e1 := D.out.G.frozen 1
  have e2 := D.out.G.frozen 2
  have e3 := D.out.G.frozen 3
  have e4 := D.out.G.frozen 4
  have b0 := D.out.P.frozen 0
  have b1 := D.out.P.frozen 1
  have b2 := D.out.P.frozen 2
  have b3 := D.out.P.frozen 3
  have b4 := D.out.P.frozen 4
  have hg0 : w.heap.size + 1 + 1 < U.heap.size := D.out.G.lt
  go_wp2_with fail
  refine bodyPost_ret (v := .tuple #[cnV zero, .bool false, .int .i64 9]) ?_ rfl ⟨rfl, ?_⟩
  · simp [results, Try.f11, go_sem, d0, d1, d2, d3, d4, zero]
  · exact kept_five D.out.k D.out.g0 _ _ _ _ _

set_option maxRecDepth 100000 in
set_option maxHeartbeats 2000000 in
theorem acked_y (x : Cn) (r : Rs) (y : Fr) (n : Int) (hx : Ok x) (hn : nm n) (hy : thr y.a y.b y.c = false) (w : World) : Calls Try.prog 11 #[cnV x, akV r y, .int .i64 n] w (Gives (.tuple #[cnV zero, .bool false, .int .i64 9]) w) := by
  obtain ⟨W, hW, T0⟩ := Th.mk_ 24 w x r y
  have D := Lib.hid T0
  have hg0 : w.heap.size + 1 + 1 < W.heap.size := T0.G.lt
  clear T0
  have k1 := Lib.hid (fun W => check_any x W)
  rw [chk_ok hx] at k1
  have k2 := Lib.hid (fun W => one_lit W n)
  rw [decide_eq_true hn] at k2
  have k3 : Hid (∀ W, Th 24 w w.heap.size (w.heap.size + 1) (w.heap.size + 1 + 1) x r y zero W → Calls Try.prog 18 #[.slice (some ⟨w.heap.size + 1, 3, none⟩) 3 3] W (Same (.bool false) W)) := Lib.hid (fun W h => by rw [← hy]; exact box_nums (h.Q.cell 3) (h.Q.cell 4) (h.Q.cell 5))
  clear hx hn hy
  have c0 := D.out.P.cell 0
  have c1 := D.out.P.cell 1
  have c2 := D.out.P.cell 2
  have c3 := D.out.P.cell 3
  have c4 := D.out.P.cell 4
  have a0 := D.out.Q.cell 0
  have a1 := D.out.Q.cell 1
  have a2 := D.out.Q.cell 2
  have a3 := D.out.Q.cell 3
  have a4 := D.out.Q.cell 4
  have a5 := D.out.Q.cell 5
  have d0 := D.out.G.cell 0
  have d1 := D.out.G.cell 1
  have d2 := D.out.G.cell 2
  have d3 := D.out.G.cell 3
  have d4 := D.out.G.cell 4
  have e0 := D.out.G.frozen 0
  have e1 := D.out.G.frozen 1
  have e2 := D.out.G.frozen 2
  have e3 := D.out.G.frozen 3
  have e4 := D.out.G.frozen 4
  have b0 := D.out.P.frozen 0
  have b1 := D.out.P.frozen 1
  have b2 := D.out.P.frozen 2
  have b3 := D.out.P.frozen 3
  have b4 := D.out.P.frozen 4
  go_enter Try.func11, Try.ntmps11
  go_wp2_with fail
  rw [← hW]
  clear hW
  refine (k1.out _).mono ?_
  rintro e w1 ⟨rfl, hk⟩
  have D := Lib.hid (D.out.on hk)
  clear c0 c1 c2 c3 c4 a0 a1 a2 a3 a4 a5 d0 e0 b0 d1 e1 b1 d2 e2 b2 d3 e3 b3 d4 e4 b4
  clear hk
  have c0 := D.out.P.cell 0
  have c1 := D.out.P.cell 1
  have c2 := D.out.P.cell 2
  have c3 := D.out.P.cell 3
  have c4 := D.out.P.cell 4
  have a0 := D.out.Q.cell 0
  have a1 := D.out.Q.cell 1
  have a2 := D.out.Q.cell 2
  have a3 := D.out.Q.cell 3
  have a4 := D.out.Q.cell 4
  have a5 := D.out.Q.cell 5
  have d0 := D.out.G.cell 0
  have d1 := D.out.G.cell 1
  have d2 := D.out.G.cell 2
  have d3 := D.out.G.cell 3
  have d4 := D.out.G.cell 4
  have e0 := D.out.G.frozen 0
  have e1 := D.out.G.frozen 1
  have e2 := D.out.G.frozen 2
  have e3 := D.out.G.frozen 3
  have e4 := D.out.G.frozen 4
  have b0 := D.out.P.frozen 0
  have b1 := D.out.P.frozen 1
  have b2 := D.out.P.frozen 2
  have b3 := D.out.P.frozen 3
  have b4 := D.out.P.frozen 4
  have hg0 : w.heap.size + 1 + 1 < w1.heap.size := D.out.G.lt
  go_wp2_with fail
  have D := Lib.hid (D.out.on ((Kept.refl _).alloc (.cells #[.int .i64 n] 3)))
  refine (k2.out _).mono ?_
  rintro e w' ⟨rfl, rfl⟩
  clear c0 c1 c2 c3 c4 a0 a1 a2 a3 a4 a5 d0 e0 b0 d1 e1 b1 d2 e2 b2 d3 e3 b3 d4 e4 b4
  generalize w1.alloc (.cells #[.int .i64 n] 3) = U at *
  have c0 := D.out.P.cell 0
  have c1 := D.out.P.cell 1
  have c2 := D.out.P.cell 2
  have c3 := D.out.P.cell 3
  have c4 := D.out.P.cell 4
  have a0 := D.out.Q.cell 0
  have a1 := D.out.Q.cell 1
  have a2 := D.out.Q.cell 2
  have a3 := D.out.Q.cell 3
  have a4 := D.out.Q.cell 4
  have a5 := D.out.Q.cell 5
  have d0 := D.out.G.cell 0
  have d1 := D.out.G.cell 1
  have d2 := D.out.G.cell 2
  have d3 := D.out.G.cell 3
  have d4 := D.out.G.cell 4
  have e0 := D.out.G.frozen 0
  have e1 := D.out.G.frozen 1
  have e2 := D.out.G.frozen 2
  have e3 := D.out.G.frozen 3
  have e4 := D.out.G.frozen 4
  have b0 := D.out.P.frozen 0
  have b1 := D.out.P.frozen 1
  have b2 := D.out.P.frozen 2
  have b3 := D.out.P.frozen 3
  have b4 := D.out.P.frozen 4
  have hg0 : w.heap.size + 1 + 1 < U.heap.size := D.out.G.lt
  go_wp2_with fail
  refine (k3.out _ D.out).mono ?_
  rintro e w' ⟨rfl, rfl⟩
  go_wp2_with fail
  refine bodyPost_ret (v := .tuple #[cnV zero, .bool false, .int .i64 9]) ?_ rfl ⟨rfl, ?_⟩
  · simp [results, Try.f11, go_sem, d0, d1, d2, d3, d4, zero]
  · exact kept_five D.out.k D.out.g0 _ _ _ _ _

set_option maxRecDepth 100000 in
set_option maxHeartbeats 2000000 in
theorem acked_failed (x : Cn) (r : Rs) (y : Fr) (n : Int) (hx : Ok x) (hn : nm n) (hy : thr y.a y.b y.c = true) (hf : x.f = true) (w : World) : Calls Try.prog 11 #[cnV x, akV r y, .int .i64 n] w (Gives (.tuple #[cnV ⟨x.s, x.a, x.b, x.c, true⟩, .bool false, .int .i64 0]) w) := by
  obtain ⟨W, hW, T0⟩ := Th.mk_ 24 w x r y
  have D := Lib.hid T0
  have hg0 : w.heap.size + 1 + 1 < W.heap.size := T0.G.lt
  clear T0
  have k1 := Lib.hid (fun W => check_any x W)
  rw [chk_ok hx] at k1
  have k2 := Lib.hid (fun W => one_lit W n)
  rw [decide_eq_true hn] at k2
  have k3 : Hid (∀ W, Th 24 w w.heap.size (w.heap.size + 1) (w.heap.size + 1 + 1) x r y zero W → Calls Try.prog 18 #[.slice (some ⟨w.heap.size + 1, 3, none⟩) 3 3] W (Same (.bool true) W)) := Lib.hid (fun W h => by rw [← hy]; exact box_nums (h.Q.cell 3) (h.Q.cell 4) (h.Q.cell 5))
  obtain ⟨s, a, b, c, f⟩ := x
  dsimp only at *
  subst hf
  clear hx hn hy
  have c0 := D.out.P.cell 0
  have c1 := D.out.P.cell 1
  have c2 := D.out.P.cell 2
  have c3 := D.out.P.cell 3
  have c4 := D.out.P.cell 4
  have a0 := D.out.Q.cell 0
  have a1 := D.out.Q.cell 1
  have a2 := D.out.Q.cell 2
  have a3 := D.out.Q.cell 3
  have a4 := D.out.Q.cell 4
  have a5 := D.out.Q.cell 5
  have d0 := D.out.G.cell 0
  have d1 := D.out.G.cell 1
  have d2 := D.out.G.cell 2
  have d3 := D.out.G.cell 3
  have d4 := D.out.G.cell 4
  have e0 := D.out.G.frozen 0
  have e1 := D.out.G.frozen 1
  have e2 := D.out.G.frozen 2
  have e3 := D.out.G.frozen 3
  have e4 := D.out.G.frozen 4
  have b0 := D.out.P.frozen 0
  have b1 := D.out.P.frozen 1
  have b2 := D.out.P.frozen 2
  have b3 := D.out.P.frozen 3
  have b4 := D.out.P.frozen 4
  go_enter Try.func11, Try.ntmps11
  go_wp2_with fail
  rw [← hW]
  clear hW
  refine (k1.out _).mono ?_
  rintro e w1 ⟨rfl, hk⟩
  have D := Lib.hid (D.out.on hk)
  clear c0 c1 c2 c3 c4 a0 a1 a2 a3 a4 a5 d0 e0 b0 d1 e1 b1 d2 e2 b2 d3 e3 b3 d4 e4 b4
  clear hk
  have c0 := D.out.P.cell 0
  have c1 := D.out.P.cell 1
  have c2 := D.out.P.cell 2
  have c3 := D.out.P.cell 3
  have c4 := D.out.P.cell 4
  have a0 := D.out.Q.cell 0
  have a1 := D.out.Q.cell 1
  have a2 := D.out.Q.cell 2
  have a3 := D.out.Q.cell 3
  have a4 := D.out.Q.cell 4
  have a5 := D.out.Q.cell 5
  have d0 := D.out.G.cell 0
  have d1 := D.out.G.cell 1
  have d2 := D.out.G.cell 2
  have d3 := D.out.G.cell 3
  have d4 := D.out.G.cell 4
  have e0 := D.out.G.frozen 0
  have e1 := D.out.G.frozen 1
  have e2 := D.out.G.frozen 2
  have e3 := D.out.G.frozen 3
  have e4 := D.out.G.frozen 4
  have b0 := D.out.P.frozen 0
  have b1 := D.out.P.frozen 1
  have b2 := D.out.P.frozen 2
  have b3 := D.out.P.frozen 3
  have b4 := D.out.P.frozen 4
  have hg0 : w.heap.size + 1 + 1 < w1.heap.size := D.out.G.lt
  go_wp2_with fail
  have D := Lib.hid (D.out.on ((Kept.refl _).alloc (.cells #[.int .i64 n] 3)))
  refine (k2.out _).mono ?_
  rintro e w' ⟨rfl, rfl⟩
  clear c0 c1 c2 c3 c4 a0 a1 a2 a3 a4 a5 d0 e0 b0 d1 e1 b1 d2 e2 b2 d3 e3 b3 d4 e4 b4
  generalize w1.alloc (.cells #[.int .i64 n] 3) = U at *
  have c0 := D.out.P.cell 0
  have c1 := D.out.P.cell 1
  have c2 := D.out.P.cell 2
  have c3 := D.out.P.cell 3
  have c4 := D.out.P.cell 4
  have a0 := D.out.Q.cell 0
  have a1 := D.out.Q.cell 1
  have a2 := D.out.Q.cell 2
  have a3 := D.out.Q.cell 3
  have a4 := D.out.Q.cell 4
  have a5 := D.out.Q.cell 5
  have d0 := D.out.G.cell 0
  have d1 := D.out.G.cell 1
  have d2 := D.out.G.cell 2
  have d3 := D.out.G.cell 3
  have d4 := D.out.G.cell 4
  have e0 := D.out.G.frozen 0
  have e1 := D.out.G.frozen 1
  have e2 := D.out.G.frozen 2
  have e3 := D.out.G.frozen 3
  have e4 := D.out.G.frozen 4
  have b0 := D.out.P.frozen 0
  have b1 := D.out.P.frozen 1
  have b2 := D.out.P.frozen 2
  have b3 := D.out.P.frozen 3
  have b4 := D.out.P.frozen 4
  have hg0 : w.heap.size + 1 + 1 < U.heap.size := D.out.G.lt
  go_wp2_with fail
  refine (k3.out _ D.out).mono ?_
  rintro e w' ⟨rfl, rfl⟩
  go_upto_region 7 with (fail)
  clear c0 c1 c2 c3 c4 a0 a1 a2 a3 a4 a5 d0 e0 b0 d1 e1 b1 d2 e2 b2 d3 e3 b3 d4 e4 b4
  have D := Lib.hid (D.out.five ⟨s, a, b, c, true⟩)
  dsimp only at D
  generalize (((((U.setCell ⟨w.heap.size + 1 + 1, 0, none⟩ (.int .i64 s)).setCell ⟨w.heap.size + 1 + 1, 1, none⟩ (.int .i64 a)).setCell ⟨w.heap.size + 1 + 1, 2, none⟩ (.int .i64 b)).setCell ⟨w.heap.size + 1 + 1, 3, none⟩ (.int .i64 c)).setCell ⟨w.heap.size + 1 + 1, 4, none⟩ (.bool true)) = V at *
  have c0 := D.out.P.cell 0
  have c1 := D.out.P.cell 1
  have c2 := D.out.P.cell 2
  have c3 := D.out.P.cell 3
  have c4 := D.out.P.cell 4
  have a0 := D.out.Q.cell 0
  have a1 := D.out.Q.cell 1
  have a2 := D.out.Q.cell 2
  have a3 := D.out.Q.cell 3
  have a4 := D.out.Q.cell 4
  have a5 := D.out.Q.cell 5
  have d0 := D.out.G.cell 0
  have d1 := D.out.G.cell 1
  have d2 := D.out.G.cell 2
  have d3 := D.out.G.cell 3
  have d4 := D.out.G.cell 4
  have e0 := D.out.G.frozen 0
  have e1 := D.out.G.frozen 1
  have e2 := D.out.G.frozen 2
  have e3 := D.out.G.frozen 3
  have e4 := D.out.G.frozen 4
  have b0 := D.out.P.frozen 0
  have b1 := D.out.P.frozen 1
  have b2 := D.out.P.frozen 2
  have b3 := D.out.P.frozen 3
  have b4 := D.out.P.frozen 4
  go_wp2_with fail
  refine bodyPost_ret (v := .tuple #[cnV ⟨s, a, b, c, true⟩, .bool false, .int .i64 0]) ?_ rfl ⟨rfl, ?_⟩
  · simp [results, Try.f11, go_sem, d0, d1, d2, d3, d4, zero]
  · exact kept_five D.out.k D.out.g0 _ _ _ _ _

set_option maxRecDepth 100000 in
set_option maxHeartbeats 2000000 in
theorem acked_fails (x : Cn) (r : Rs) (y : Fr) (n : Int) (hx : Ok x) (hn : nm n) (hy : thr y.a y.b y.c = true) (hf : x.f = false) (hq : fails x y n) (w : World) : Calls Try.prog 11 #[cnV x, akV r y, .int .i64 n] w (Gives (.tuple #[cnV ⟨x.s, x.a, x.b, x.c, true⟩, .bool false, .int .i64 0]) w) := by
  obtain ⟨W, hW, T0⟩ := Th.mk_ 24 w x r y
  have D := Lib.hid T0
  have hg0 : w.heap.size + 1 + 1 < W.heap.size := T0.G.lt
  clear T0
  have k1 := Lib.hid (fun W => check_any x W)
  rw [chk_ok hx] at k1
  have k2 := Lib.hid (fun W => one_lit W n)
  rw [decide_eq_true hn] at k2
  have k3 : Hid (∀ W, Th 24 w w.heap.size (w.heap.size + 1) (w.heap.size + 1 + 1) x r y zero W → Calls Try.prog 18 #[.slice (some ⟨w.heap.size + 1, 3, none⟩) 3 3] W (Same (.bool true) W)) := Lib.hid (fun W h => by rw [← hy]; exact box_nums (h.Q.cell 3) (h.Q.cell 4) (h.Q.cell 5))
  have hyf : OkF y := ⟨(thr_is.1 hy).1, (thr_is.1 hy).2.1, (thr_is.1 hy).2.2⟩
  have k4 := Lib.hid (fun W => fails_any x r y n hx hyf W)
  rw [decide_eq_true hq] at k4
  obtain ⟨s, a, b, c, f⟩ := x
  obtain ⟨m, ya, yb, yc⟩ := y
  dsimp only at *
  subst hf
  clear hx hn hy hyf hq
  have c0 := D.out.P.cell 0
  have c1 := D.out.P.cell 1
  have c2 := D.out.P.cell 2
  have c3 := D.out.P.cell 3
  have c4 := D.out.P.cell 4
  have a0 := D.out.Q.cell 0
  have a1 := D.out.Q.cell 1
  have a2 := D.out.Q.cell 2
  have a3 := D.out.Q.cell 3
  have a4 := D.out.Q.cell 4
  have a5 := D.out.Q.cell 5
  have d0 := D.out.G.cell 0
  have d1 := D.out.G.cell 1
  have d2 := D.out.G.cell 2
  have d3 := D.out.G.cell 3
  have d4 := D.out.G.cell 4
  have e0 := D.out.G.frozen 0
  have e1 := D.out.G.frozen 1
  have e2 := D.out.G.frozen 2
  have e3 := D.out.G.frozen 3
  have e4 := D.out.G.frozen 4
  have b0 := D.out.P.frozen 0
  have b1 := D.out.P.frozen 1
  have b2 := D.out.P.frozen 2
  have b3 := D.out.P.frozen 3
  have b4 := D.out.P.frozen 4
  go_enter Try.func11, Try.ntmps11
  go_wp2_with fail
  rw [← hW]
  clear hW
  refine (k1.out _).mono ?_
  rintro e w1 ⟨rfl, hk⟩
  have D := Lib.hid (D.out.on hk)
  clear c0 c1 c2 c3 c4 a0 a1 a2 a3 a4 a5 d0 e0 b0 d1 e1 b1 d2 e2 b2 d3 e3 b3 d4 e4 b4
  clear hk
  have c0 := D.out.P.cell 0
  have c1 := D.out.P.cell 1
  have c2 := D.out.P.cell 2
  have c3 := D.out.P.cell 3
  have c4 := D.out.P.cell 4
  have a0 := D.out.Q.cell 0
  have a1 := D.out.Q.cell 1
  have a2 := D.out.Q.cell 2
  have a3 := D.out.Q.cell 3
  have a4 := D.out.Q.cell 4
  have a5 := D.out.Q.cell 5
  have d0 := D.out.G.cell 0
  have d1 := D.out.G.cell 1
  have d2 := D.out.G.cell 2
  have d3 := D.out.G.cell 3
  have d4 := D.out.G.cell 4
  have e0 := D.out.G.frozen 0
  have e1 := D.out.G.frozen 1
  have e2 := D.out.G.frozen 2
  have e3 := D.out.G.frozen 3
  have e4 := D.out.G.frozen 4
  have b0 := D.out.P.frozen 0
  have b1 := D.out.P.frozen 1
  have b2 := D.out.P.frozen 2
  have b3 := D.out.P.frozen 3
  have b4 := D.out.P.frozen 4
  have hg0 : w.heap.size + 1 + 1 < w1.heap.size := D.out.G.lt
  go_wp2_with fail
  have D := Lib.hid (D.out.on ((Kept.refl _).alloc (.cells #[.int .i64 n] 3)))
  refine (k2.out _).mono ?_
  rintro e w' ⟨rfl, rfl⟩
  clear c0 c1 c2 c3 c4 a0 a1 a2 a3 a4 a5 d0 e0 b0 d1 e1 b1 d2 e2 b2 d3 e3 b3 d4 e4 b4
  generalize w1.alloc (.cells #[.int .i64 n] 3) = U at *
  have c0 := D.out.P.cell 0
  have c1 := D.out.P.cell 1
  have c2 := D.out.P.cell 2
  have c3 := D.out.P.cell 3
  have c4 := D.out.P.cell 4
  have a0 := D.out.Q.cell 0
  have a1 := D.out.Q.cell 1
  have a2 := D.out.Q.cell 2
  have a3 := D.out.Q.cell 3
  have a4 := D.out.Q.cell 4
  have a5 := D.out.Q.cell 5
  have d0 := D.out.G.cell 0
  have d1 := D.out.G.cell 1
  have d2 := D.out.G.cell 2
  have d3 := D.out.G.cell 3
  have d4 := D.out.G.cell 4
  have e0 := D.out.G.frozen 0
  have e1 := D.out.G.frozen 1
  have e2 := D.out.G.frozen 2
  have e3 := D.out.G.frozen 3
  have e4 := D.out.G.frozen 4
  have b0 := D.out.P.frozen 0
  have b1 := D.out.P.frozen 1
  have b2 := D.out.P.frozen 2
  have b3 := D.out.P.frozen 3
  have b4 := D.out.P.frozen 4
  have hg0 : w.heap.size + 1 + 1 < U.heap.size := D.out.G.lt
  go_wp2_with fail
  refine (k3.out _ D.out).mono ?_
  rintro e w' ⟨rfl, rfl⟩
  go_wp2_with fail
  clear c0 c1 c2 c3 c4 a0 a1 a2 a3 a4 a5 d0 e0 b0 d1 e1 b1 d2 e2 b2 d3 e3 b3 d4 e4 b4
  have D := Lib.hid (D.out.five ⟨s, a, b, c, false⟩)
  dsimp only at D
  refine (k4.out _).mono ?_
  rintro e w2 ⟨rfl, hk⟩
  have D := Lib.hid (D.out.on hk)
  clear hk
  have c0 := D.out.P.cell 0
  have c1 := D.out.P.cell 1
  have c2 := D.out.P.cell 2
  have c3 := D.out.P.cell 3
  have c4 := D.out.P.cell 4
  have a0 := D.out.Q.cell 0
  have a1 := D.out.Q.cell 1
  have a2 := D.out.Q.cell 2
  have a3 := D.out.Q.cell 3
  have a4 := D.out.Q.cell 4
  have a5 := D.out.Q.cell 5
  have d0 := D.out.G.cell 0
  have d1 := D.out.G.cell 1
  have d2 := D.out.G.cell 2
  have d3 := D.out.G.cell 3
  have d4 := D.out.G.cell 4
  have e0 := D.out.G.frozen 0
  have e1 := D.out.G.frozen 1
  have e2 := D.out.G.frozen 2
  have e3 := D.out.G.frozen 3
  have e4 := D.out.G.frozen 4
  have b0 := D.out.P.frozen 0
  have b1 := D.out.P.frozen 1
  have b2 := D.out.P.frozen 2
  have b3 := D.out.P.frozen 3
  have b4 := D.out.P.frozen 4
  have hg0 : w.heap.size + 1 + 1 < w2.heap.size := D.out.G.lt
  go_wp2_with fail
  refine bodyPost_ret (v := .tuple #[cnV ⟨s, a, b, c, true⟩, .bool false, .int .i64 0]) ?_ rfl ⟨rfl, ?_⟩
  · simp [results, Try.f11, go_sem, d0, d1, d2, d3, d4, zero]
  · exact kept_five (D.out.k.setCell (p := ⟨w.heap.size + 1 + 1, 4, none⟩) D.out.g0 _) D.out.g0 _ _ _ _ _

set_option maxRecDepth 100000 in
set_option maxHeartbeats 2000000 in
theorem acked_goes (x : Cn) (r : Rs) (y : Fr) (n : Int) (hx : Ok x) (hn : nm n) (hy : thr y.a y.b y.c = true) (hf : x.f = false) (hq : ¬ fails x y n) (hm : y.m = true) (w : World) : Calls Try.prog 11 #[cnV x, akV r y, .int .i64 n] w (Gives (.tuple #[cnV ⟨x.s, y.a, y.b, y.c, false⟩, .bool (decide (x.c < y.c)), .int .i64 0]) w) := by
  obtain ⟨W, hW, T0⟩ := Th.mk_ 24 w x r y
  have D := Lib.hid T0
  have hg0 : w.heap.size + 1 + 1 < W.heap.size := T0.G.lt
  clear T0
  have k1 := Lib.hid (fun W => check_any x W)
  rw [chk_ok hx] at k1
  have k2 := Lib.hid (fun W => one_lit W n)
  rw [decide_eq_true hn] at k2
  have k3 : Hid (∀ W, Th 24 w w.heap.size (w.heap.size + 1) (w.heap.size + 1 + 1) x r y zero W → Calls Try.prog 18 #[.slice (some ⟨w.heap.size + 1, 3, none⟩) 3 3] W (Same (.bool true) W)) := Lib.hid (fun W h => by rw [← hy]; exact box_nums (h.Q.cell 3) (h.Q.cell 4) (h.Q.cell 5))
  have hyf : OkF y := ⟨(thr_is.1 hy).1, (thr_is.1 hy).2.1, (thr_is.1 hy).2.2⟩
  have k4 := Lib.hid (fun W => fails_any x r y n hx hyf W)
  rw [decide_eq_false hq] at k4
  obtain ⟨s, a, b, c, f⟩ := x
  obtain ⟨m, ya, yb, yc⟩ := y
  dsimp only at *
  subst hf
  subst hm
  clear hx hn hy hyf hq
  obtain ⟨E, hE⟩ : ∃ E, decide (c < yc) = E := ⟨_, rfl⟩
  rw [hE]
  have c0 := D.out.P.cell 0
  have c1 := D.out.P.cell 1
  have c2 := D.out.P.cell 2
  have c3 := D.out.P.cell 3
  have c4 := D.out.P.cell 4
  have a0 := D.out.Q.cell 0
  have a1 := D.out.Q.cell 1
  have a2 := D.out.Q.cell 2
  have a3 := D.out.Q.cell 3
  have a4 := D.out.Q.cell 4
  have a5 := D.out.Q.cell 5
  have d0 := D.out.G.cell 0
  have d1 := D.out.G.cell 1
  have d2 := D.out.G.cell 2
  have d3 := D.out.G.cell 3
  have d4 := D.out.G.cell 4
  have e0 := D.out.G.frozen 0
  have e1 := D.out.G.frozen 1
  have e2 := D.out.G.frozen 2
  have e3 := D.out.G.frozen 3
  have e4 := D.out.G.frozen 4
  have b0 := D.out.P.frozen 0
  have b1 := D.out.P.frozen 1
  have b2 := D.out.P.frozen 2
  have b3 := D.out.P.frozen 3
  have b4 := D.out.P.frozen 4
  go_enter Try.func11, Try.ntmps11
  go_wp2_with fail
  rw [← hW]
  clear hW
  refine (k1.out _).mono ?_
  rintro e w1 ⟨rfl, hk⟩
  have D := Lib.hid (D.out.on hk)
  clear c0 c1 c2 c3 c4 a0 a1 a2 a3 a4 a5 d0 e0 b0 d1 e1 b1 d2 e2 b2 d3 e3 b3 d4 e4 b4
  clear hk
  have c0 := D.out.P.cell 0
  have c1 := D.out.P.cell 1
  have c2 := D.out.P.cell 2
  have c3 := D.out.P.cell 3
  have c4 := D.out.P.cell 4
  have a0 := D.out.Q.cell 0
  have a1 := D.out.Q.cell 1
  have a2 := D.out.Q.cell 2
  have a3 := D.out.Q.cell 3
  have a4 := D.out.Q.cell 4
  have a5 := D.out.Q.cell 5
  have d0 := D.out.G.cell 0
  have d1 := D.out.G.cell 1
  have d2 := D.out.G.cell 2
  have d3 := D.out.G.cell 3
  have d4 := D.out.G.cell 4
  have e0 := D.out.G.frozen 0
  have e1 := D.out.G.frozen 1
  have e2 := D.out.G.frozen 2
  have e3 := D.out.G.frozen 3
  have e4 := D.out.G.frozen 4
  have b0 := D.out.P.frozen 0
  have b1 := D.out.P.frozen 1
  have b2 := D.out.P.frozen 2
  have b3 := D.out.P.frozen 3
  have b4 := D.out.P.frozen 4
  have hg0 : w.heap.size + 1 + 1 < w1.heap.size := D.out.G.lt
  go_wp2_with fail
  have D := Lib.hid (D.out.on ((Kept.refl _).alloc (.cells #[.int .i64 n] 3)))
  refine (k2.out _).mono ?_
  rintro e w' ⟨rfl, rfl⟩
  clear c0 c1 c2 c3 c4 a0 a1 a2 a3 a4 a5 d0 e0 b0 d1 e1 b1 d2 e2 b2 d3 e3 b3 d4 e4 b4
  generalize w1.alloc (.cells #[.int .i64 n] 3) = U at *
  have c0 := D.out.P.cell 0
  have c1 := D.out.P.cell 1
  have c2 := D.out.P.cell 2
  have c3 := D.out.P.cell 3
  have c4 := D.out.P.cell 4
  have a0 := D.out.Q.cell 0
  have a1 := D.out.Q.cell 1
  have a2 := D.out.Q.cell 2
  have a3 := D.out.Q.cell 3
  have a4 := D.out.Q.cell 4
  have a5 := D.out.Q.cell 5
  have d0 := D.out.G.cell 0
  have d1 := D.out.G.cell 1
  have d2 := D.out.G.cell 2
  have d3 := D.out.G.cell 3
  have d4 := D.out.G.cell 4
  have e0 := D.out.G.frozen 0
  have e1 := D.out.G.frozen 1
  have e2 := D.out.G.frozen 2
  have e3 := D.out.G.frozen 3
  have e4 := D.out.G.frozen 4
  have b0 := D.out.P.frozen 0
  have b1 := D.out.P.frozen 1
  have b2 := D.out.P.frozen 2
  have b3 := D.out.P.frozen 3
  have b4 := D.out.P.frozen 4
  have hg0 : w.heap.size + 1 + 1 < U.heap.size := D.out.G.lt
  go_wp2_with fail
  refine (k3.out _ D.out).mono ?_
  rintro e w' ⟨rfl, rfl⟩
  go_wp2_with fail
  clear c0 c1 c2 c3 c4 a0 a1 a2 a3 a4 a5 d0 e0 b0 d1 e1 b1 d2 e2 b2 d3 e3 b3 d4 e4 b4
  have D := Lib.hid (D.out.five ⟨s, a, b, c, false⟩)
  dsimp only at D
  refine (k4.out _).mono ?_
  rintro e w2 ⟨rfl, hk⟩
  have D := Lib.hid (D.out.on hk)
  clear hk
  have c0 := D.out.P.cell 0
  have c1 := D.out.P.cell 1
  have c2 := D.out.P.cell 2
  have c3 := D.out.P.cell 3
  have c4 := D.out.P.cell 4
  have a0 := D.out.Q.cell 0
  have a1 := D.out.Q.cell 1
  have a2 := D.out.Q.cell 2
  have a3 := D.out.Q.cell 3
  have a4 := D.out.Q.cell 4
  have a5 := D.out.Q.cell 5
  have d0 := D.out.G.cell 0
  have d1 := D.out.G.cell 1
  have d2 := D.out.G.cell 2
  have d3 := D.out.G.cell 3
  have d4 := D.out.G.cell 4
  have e0 := D.out.G.frozen 0
  have e1 := D.out.G.frozen 1
  have e2 := D.out.G.frozen 2
  have e3 := D.out.G.frozen 3
  have e4 := D.out.G.frozen 4
  have b0 := D.out.P.frozen 0
  have b1 := D.out.P.frozen 1
  have b2 := D.out.P.frozen 2
  have b3 := D.out.P.frozen 3
  have b4 := D.out.P.frozen 4
  have hg0 : w.heap.size + 1 + 1 < w2.heap.size := D.out.G.lt
  go_upto_region 13 with (fail)
  clear c0 c1 c2 c3 c4 a0 a1 a2 a3 a4 a5 d0 e0 b0 d1 e1 b1 d2 e2 b2 d3 e3 b3 d4 e4 b4
  have D := Lib.hid (D.out.seen ya yb yc)
  dsimp only at D
  generalize (((w2.setCell ⟨w.heap.size + 1 + 1, 1, none⟩ (.int .i64 ya)).setCell ⟨w.heap.size + 1 + 1, 2, none⟩ (.int .i64 yb)).setCell ⟨w.heap.size + 1 + 1, 3, none⟩ (.int .i64 yc)) = V at *
  have c0 := D.out.P.cell 0
  have c1 := D.out.P.cell 1
  have c2 := D.out.P.cell 2
  have c3 := D.out.P.cell 3
  have c4 := D.out.P.cell 4
  have a0 := D.out.Q.cell 0
  have a1 := D.out.Q.cell 1
  have a2 := D.out.Q.cell 2
  have a3 := D.out.Q.cell 3
  have a4 := D.out.Q.cell 4
  have a5 := D.out.Q.cell 5
  have d0 := D.out.G.cell 0
  have d1 := D.out.G.cell 1
  have d2 := D.out.G.cell 2
  have d3 := D.out.G.cell 3
  have d4 := D.out.G.cell 4
  have e0 := D.out.G.frozen 0
  have e1 := D.out.G.frozen 1
  have e2 := D.out.G.frozen 2
  have e3 := D.out.G.frozen 3
  have e4 := D.out.G.frozen 4
  have b0 := D.out.P.frozen 0
  have b1 := D.out.P.frozen 1
  have b2 := D.out.P.frozen 2
  have b3 := D.out.P.frozen 3
  have b4 := D.out.P.frozen 4
  go_wp2_with fail
  refine bodyPost_ret (v := .tuple #[cnV ⟨s, ya, yb, yc, false⟩, .bool E, .int .i64 0]) ?_ rfl ⟨rfl, ?_⟩
  · simp [results, Try.f11, go_sem, d0, d1, d2, d3, d4, zero]
  · exact kept_five D.out.k D.out.g0 _ _ _ _ _

set_option maxRecDepth 100000 in
set_option maxHeartbeats 2000000 in
theorem acked_none (x : Cn) (r : Rs) (y : Fr) (n : Int) (hx : Ok x) (hn : nm n) (hy : thr y.a y.b y.c = true) (hf : x.f = false) (hq : ¬ fails x y n) (hm : y.m = false) (w : World) : Calls Try.prog 11 #[cnV x, akV r y, .int .i64 n] w (Gives (.tuple #[cnV ⟨x.s, x.a, x.b, x.c, false⟩, .bool false, .int .i64 0]) w) := by
  obtain ⟨W, hW, T0⟩ := Th.mk_ 24 w x r y
  have D := Lib.hid T0
  have hg0 : w.heap.size + 1 + 1 < W.heap.size := T0.G.lt
  clear T0
  have k1 := Lib.hid (fun W => check_any x W)
  rw [chk_ok hx] at k1
  have k2 := Lib.hid (fun W => one_lit W n)
  rw [decide_eq_true hn] at k2
  have k3 : Hid (∀ W, Th 24 w w.heap.size (w.heap.size + 1) (w.heap.size + 1 + 1) x r y zero W → Calls Try.prog 18 #[.slice (some ⟨w.heap.size + 1, 3, none⟩) 3 3] W (Same (.bool true) W)) := Lib.hid (fun W h => by rw [← hy]; exact box_nums (h.Q.cell 3) (h.Q.cell 4) (h.Q.cell 5))
  have hyf : OkF y := ⟨(thr_is.1 hy).1, (thr_is.1 hy).2.1, (thr_is.1 hy).2.2⟩
  have k4 := Lib.hid (fun W => fails_any x r y n hx hyf W)
  rw [decide_eq_false hq] at k4
  obtain ⟨s, a, b, c, f⟩ := x
  obtain ⟨m, ya, yb, yc⟩ := y
  dsimp only at *
  subst hf
  subst hm
  clear hx hn hy hyf hq
  have c0 := D.out.P.cell 0
  have c1 := D.out.P.cell 1
  have c2 := D.out.P.cell 2
  have c3 := D.out.P.cell 3
  have c4 := D.out.P.cell 4
  have a0 := D.out.Q.cell 0
  have a1 := D.out.Q.cell 1
  have a2 := D.out.Q.cell 2
  have a3 := D.out.Q.cell 3
  have a4 := D.out.Q.cell 4
  have a5 := D.out.Q.cell 5
  have d0 := D.out.G.cell 0
  have d1 := D.out.G.cell 1
  have d2 := D.out.G.cell 2
  have d3 := D.out.G.cell 3
  have d4 := D.out.G.cell 4
  have e0 := D.out.G.frozen 0
  have e1 := D.out.G.frozen 1
  have e2 := D.out.G.frozen 2
  have e3 := D.out.G.frozen 3
  have e4 := D.out.G.frozen 4
  have b0 := D.out.P.frozen 0
  have b1 := D.out.P.frozen 1
  have b2 := D.out.P.frozen 2
  have b3 := D.out.P.frozen 3
  have b4 := D.out.P.frozen 4
  go_enter Try.func11, Try.ntmps11
  go_wp2_with fail
  rw [← hW]
  clear hW
  refine (k1.out _).mono ?_
  rintro e w1 ⟨rfl, hk⟩
  have D := Lib.hid (D.out.on hk)
  clear c0 c1 c2 c3 c4 a0 a1 a2 a3 a4 a5 d0 e0 b0 d1 e1 b1 d2 e2 b2 d3 e3 b3 d4 e4 b4
  clear hk
  have c0 := D.out.P.cell 0
  have c1 := D.out.P.cell 1
  have c2 := D.out.P.cell 2
  have c3 := D.out.P.cell 3
  have c4 := D.out.P.cell 4
  have a0 := D.out.Q.cell 0
  have a1 := D.out.Q.cell 1
  have a2 := D.out.Q.cell 2
  have a3 := D.out.Q.cell 3
  have a4 := D.out.Q.cell 4
  have a5 := D.out.Q.cell 5
  have d0 := D.out.G.cell 0
  have d1 := D.out.G.cell 1
  have d2 := D.out.G.cell 2
  have d3 := D.out.G.cell 3
  have d4 := D.out.G.cell 4
  have e0 := D.out.G.frozen 0
  have e1 := D.out.G.frozen 1
  have e2 := D.out.G.frozen 2
  have e3 := D.out.G.frozen 3
  have e4 := D.out.G.frozen 4
  have b0 := D.out.P.frozen 0
  have b1 := D.out.P.frozen 1
  have b2 := D.out.P.frozen 2
  have b3 := D.out.P.frozen 3
  have b4 := D.out.P.frozen 4
  have hg0 : w.heap.size + 1 + 1 < w1.heap.size := D.out.G.lt
  go_wp2_with fail
  have D := Lib.hid (D.out.on ((Kept.refl _).alloc (.cells #[.int .i64 n] 3)))
  refine (k2.out _).mono ?_
  rintro e w' ⟨rfl, rfl⟩
  clear c0 c1 c2 c3 c4 a0 a1 a2 a3 a4 a5 d0 e0 b0 d1 e1 b1 d2 e2 b2 d3 e3 b3 d4 e4 b4
  generalize w1.alloc (.cells #[.int .i64 n] 3) = U at *
  have c0 := D.out.P.cell 0
  have c1 := D.out.P.cell 1
  have c2 := D.out.P.cell 2
  have c3 := D.out.P.cell 3
  have c4 := D.out.P.cell 4
  have a0 := D.out.Q.cell 0
  have a1 := D.out.Q.cell 1
  have a2 := D.out.Q.cell 2
  have a3 := D.out.Q.cell 3
  have a4 := D.out.Q.cell 4
  have a5 := D.out.Q.cell 5
  have d0 := D.out.G.cell 0
  have d1 := D.out.G.cell 1
  have d2 := D.out.G.cell 2
  have d3 := D.out.G.cell 3
  have d4 := D.out.G.cell 4
  have e0 := D.out.G.frozen 0
  have e1 := D.out.G.frozen 1
  have e2 := D.out.G.frozen 2
  have e3 := D.out.G.frozen 3
  have e4 := D.out.G.frozen 4
  have b0 := D.out.P.frozen 0
  have b1 := D.out.P.frozen 1
  have b2 := D.out.P.frozen 2
  have b3 := D.out.P.frozen 3
  have b4 := D.out.P.frozen 4
  have hg0 : w.heap.size + 1 + 1 < U.heap.size := D.out.G.lt
  go_wp2_with fail
  refine (k3.out _ D.out).mono ?_
  rintro e w' ⟨rfl, rfl⟩
  go_wp2_with fail
  clear c0 c1 c2 c3 c4 a0 a1 a2 a3 a4 a5 d0 e0 b0 d1 e1 b1 d2 e2 b2 d3 e3 b3 d4 e4 b4
  have D := Lib.hid (D.out.five ⟨s, a, b, c, false⟩)
  dsimp only at D
  refine (k4.out _).mono ?_
  rintro e w2 ⟨rfl, hk⟩
  have D := Lib.hid (D.out.on hk)
  clear hk
  have c0 := D.out.P.cell 0
  have c1 := D.out.P.cell 1
  have c2 := D.out.P.cell 2
  have c3 := D.out.P.cell 3
  have c4 := D.out.P.cell 4
  have a0 := D.out.Q.cell 0
  have a1 := D.out.Q.cell 1
  have a2 := D.out.Q.cell 2
  have a3 := D.out.Q.cell 3
  have a4 := D.out.Q.cell 4
  have a5 := D.out.Q.cell 5
  have d0 := D.out.G.cell 0
  have d1 := D.out.G.cell 1
  have d2 := D.out.G.cell 2
  have d3 := D.out.G.cell 3
  have d4 := D.out.G.cell 4
  have e0 := D.out.G.frozen 0
  have e1 := D.out.G.frozen 1
  have e2 := D.out.G.frozen 2
  have e3 := D.out.G.frozen 3
  have e4 := D.out.G.frozen 4
  have b0 := D.out.P.frozen 0
  have b1 := D.out.P.frozen 1
  have b2 := D.out.P.frozen 2
  have b3 := D.out.P.frozen 3
  have b4 := D.out.P.frozen 4
  have hg0 : w.heap.size + 1 + 1 < w2.heap.size := D.out.G.lt
  go_wp2_with fail
  refine bodyPost_ret (v := .tuple #[cnV ⟨s, a, b, c, false⟩, .bool false, .int .i64 0]) ?_ rfl ⟨rfl, ?_⟩
  · simp [results, Try.f11, go_sem, d0, d1, d2, d3, d4, zero]
  · exact kept_five D.out.k D.out.g0 _ _ _ _ _

theorem acked_any (x : Cn) (r : Rs) (y : Fr) (n : Int) (w : World) : Calls Try.prog 11 #[cnV x, akV r y, .int .i64 n] w (Gives (.tuple #[cnV (akW x y n), .bool (akB x y n), .int .i64 (akE x y n)]) w) := by
  by_cases hx : Ok x
  · by_cases hn : nm n
    · by_cases hy : OkF y
      · obtain ⟨e1, e2, e3⟩ := ak_ok hx hn hy
        rw [e1, e2, e3]
        have ht : thr y.a y.b y.c = true := thr_is.2 ⟨hy.a, hy.b, hy.c⟩
        rcases Bool.eq_false_or_eq_true x.f with hf | hf
        · rw [(next_failed hf y n).1, (next_failed hf y n).2]
          have h := acked_failed x r y n hx hn ht hf w
          rw [show (⟨x.s, x.a, x.b, x.c, true⟩ : Cn) = x from Cn.ext' rfl rfl rfl rfl hf.symm] at h
          exact h
        · by_cases hq : fails x y n
          · rw [(next_fails hf hq).1, (next_fails hf hq).2]
            exact acked_fails x r y n hx hn ht hf hq w
          · rcases Bool.eq_false_or_eq_true y.m with hm | hm
            · rw [(next_goes hf hq hm).1, (next_goes hf hq hm).2]
              have h := acked_goes x r y n hx hn ht hf hq hm w
              rw [show ({ x with a := y.a, b := y.b, c := y.c } : Cn) = ⟨x.s, y.a, y.b, y.c, false⟩ from Cn.ext' rfl rfl rfl rfl hf]
              exact h
            · rw [(next_none hf hq hm).1, (next_none hf hq hm).2]
              have h := acked_none x r y n hx hn ht hf hq hm w
              rw [show (⟨x.s, x.a, x.b, x.c, false⟩ : Cn) = x from Cn.ext' rfl rfl rfl rfl hf.symm] at h
              exact h
      · obtain ⟨e1, e2, e3⟩ := ak_rng (y := y) (n := n) hx (fun h => hy h.2)
        rw [e1, e2, e3]
        exact acked_y x r y n hx hn (thr_not.2 (fun h => hy ⟨h.1, h.2.1, h.2.2⟩)) w
    · obtain ⟨e1, e2, e3⟩ := ak_rng (y := y) (n := n) hx (fun h => hn h.1)
      rw [e1, e2, e3]
      exact acked_n x r y n hx hn w
  · obtain ⟨e1, e2, e3⟩ := ak_no (y := y) (n := n) hx
    rw [e1, e2, e3]
    exact acked_bad x r y n hx w
end Go.Proofs.Ytbclpjfjkgehaaa.Ecn
