/-
  Contract of the document's Sample.
-/
import Derived.Test.YtjmieefbeojkfaaRttQ
namespace Go.Proofs.Ytjmieefbeojkfaa.Rtt
open Go.RowKit RttM Wd
set_option linter.unusedVariables false
set_option linter.unusedSimpArgs false

set_option maxRecDepth 100000 in
theorem rsample_bad (r : Rt) (x y z : Int) (w : World) (h1 : ¬ isNew r) (h2 : ¬ meas r) : Calls Try.prog 14 #[rtV r, .int .i64 x, .int .i64 y, .int .i64 z] w (Gives (.tuple #[rtV zero, .int .i64 2]) w) := by
  have c1 := rcheck_any r
  rw [chk_none h1 h2] at c1
  go_enter Try.func14, Try.ntmps14
  go_wp2_with fail
  obtain ⟨W, hW, A1, A2, KW⟩ := two w #[.int .i64 r.l, .int .i64 r.m, .int .i64 r.s, .int .i64 r.v, .int .i64 r.f] #[.int .i64 0, .int .i64 0, .int .i64 0, .int .i64 0, .int .i64 0] 23 23
  rw [← hW]
  clear hW
  refine (c1 _).mono ?_
  rintro e w1 ⟨rfl, K1⟩
  have B1 := Lib.hid (A1.kept K1)
  have B2 := Lib.hid (A2.kept K1)
  have KB := Lib.hid (KW.trans K1)
  clear A1 A2 KW K1
  have d0 := B2.out.cell 0
  have g0 := B2.out.frozen 0
  have d1 := B2.out.cell 1
  have g1 := B2.out.frozen 1
  have d2 := B2.out.cell 2
  have g2 := B2.out.frozen 2
  have d3 := B2.out.cell 3
  have g3 := B2.out.frozen 3
  have d4 := B2.out.cell 4
  have g4 := B2.out.frozen 4
  go_wp2_with fail
  have z0 : w.heap.size ≤ w.heap.size + 1 := by omega
  refine bodyPost_ret (v := .tuple #[rtV zero, .int .i64 2]) ?_ rfl ⟨rfl, ?_⟩
  · simp [results, Try.f14, go_sem, d0, d1, d2, d3, d4, zero]
  · exact (((((KB.out.setCell (p := ⟨w.heap.size + 1, 0, none⟩) z0 _).setCell (p := ⟨w.heap.size + 1, 1, none⟩) z0 _).setCell (p := ⟨w.heap.size + 1, 2, none⟩) z0 _).setCell (p := ⟨w.heap.size + 1, 3, none⟩) z0 _).setCell (p := ⟨w.heap.size + 1, 4, none⟩) z0 _)

set_option maxRecDepth 100000 in
theorem rsample_range (r : Rt) (x y z : Int) (w : World) (h1 : chk r = 0) {bx by_ bz : Bool} (hx : Hid (decide (tm x) = bx)) (hy : Hid (decide (tm y) = by_)) (hz : Hid (decide (tm z) = bz)) (hb : (bx && (by_ && bz)) = false) :
    Calls Try.prog 14 #[rtV r, .int .i64 x, .int .i64 y, .int .i64 z] w (Gives (.tuple #[rtV zero, .int .i64 9]) w) := by
  have c1 := rcheck_any r
  rw [h1] at c1
  have key : bx = false ∨ (bx = true ∧ by_ = false) ∨ (bx = true ∧ by_ = true ∧ bz = false) := by cases bx <;> cases by_ <;> cases bz <;> simp_all
  clear hb
  rcases key with rfl | ⟨rfl, rfl⟩ | ⟨rfl, rfl, rfl⟩
  all_goals
    go_enter Try.func14, Try.ntmps14
    go_wp2_with fail
    obtain ⟨W, hW, A1, A2, KW⟩ := two w #[.int .i64 r.l, .int .i64 r.m, .int .i64 r.s, .int .i64 r.v, .int .i64 r.f] #[.int .i64 0, .int .i64 0, .int .i64 0, .int .i64 0, .int .i64 0] 23 23
    rw [← hW]
    clear hW
    refine (c1 _).mono ?_
    rintro e w1 ⟨rfl, K1⟩
    have B1 := Lib.hid (A1.kept K1)
    have B2 := Lib.hid (A2.kept K1)
    have KB := Lib.hid (KW.trans K1)
    clear A1 A2 KW K1
    have d0 := B2.out.cell 0
    have g0 := B2.out.frozen 0
    have d1 := B2.out.cell 1
    have g1 := B2.out.frozen 1
    have d2 := B2.out.cell 2
    have g2 := B2.out.frozen 2
    have d3 := B2.out.cell 3
    have g3 := B2.out.frozen 3
    have d4 := B2.out.cell 4
    have g4 := B2.out.frozen 4
    go_wp2_with (go_at_call 30; (first | with_reducible refine (rtime_is hx _).mono ?_ | with_reducible refine (rtime_is hy _).mono ?_ | with_reducible refine (rtime_is hz _).mono ?_); rintro e w' ⟨rfl, rfl⟩)
    have z0 : w.heap.size ≤ w.heap.size + 1 := by omega
    refine bodyPost_ret (v := .tuple #[rtV zero, .int .i64 9]) ?_ rfl ⟨rfl, ?_⟩
    · simp [results, Try.f14, go_sem, d0, d1, d2, d3, d4, zero]
    · exact (((((KB.out.setCell (p := ⟨w.heap.size + 1, 0, none⟩) z0 _).setCell (p := ⟨w.heap.size + 1, 1, none⟩) z0 _).setCell (p := ⟨w.heap.size + 1, 2, none⟩) z0 _).setCell (p := ⟨w.heap.size + 1, 3, none⟩) z0 _).setCell (p := ⟨w.heap.size + 1, 4, none⟩) z0 _)

set_option maxRecDepth 100000 in
theorem rsample_new (r : Rt) (x y z : Int) (w : World) (h1 : isNew r) (tx : tm x) (ty : tm y) (tz : tm z) :
    Calls Try.prog 14 #[rtV r, .int .i64 x, .int .i64 y, .int .i64 z] w (Gives (.tuple #[rtV (first x z), .int .i64 0]) w) := by
  have c1 := rcheck_any r
  rw [chk_new h1] at c1
  have hx := Lib.hid (decide_eq_true tx)
  have hy := Lib.hid (decide_eq_true ty)
  have hz := Lib.hid (decide_eq_true tz)
  have hf : r.f = -1 := h1.2.2.2.2.2
  obtain ⟨tx0, tx1⟩ := tx
  have e2 : x.tdiv 2 = x / 2 := Int.tdiv_eq_ediv_of_nonneg tx0
  have e3 : IntKind.i64.wrap (x / 2) = x / 2 := IntWalk.i64_in _ (by omega)
  obtain ⟨l, m, s, v, f⟩ := r
  simp only at hf
  subst hf
  go_enter Try.func14, Try.ntmps14
  go_wp2_with fail
  obtain ⟨W, hW, A1, A2, KW⟩ := two w #[.int .i64 l, .int .i64 m, .int .i64 s, .int .i64 v, .int .i64 (-1)] #[.int .i64 0, .int .i64 0, .int .i64 0, .int .i64 0, .int .i64 0] 23 23
  rw [← hW]
  clear hW
  refine (c1 _).mono ?_
  rintro e w1 ⟨rfl, K1⟩
  have B1 := Lib.hid (A1.kept K1)
  have B2 := Lib.hid (A2.kept K1)
  have KB := Lib.hid (KW.trans K1)
  clear A1 A2 KW K1
  have p0 := B1.out.cell 0
  have p1 := B1.out.cell 1
  have p2 := B1.out.cell 2
  have p3 := B1.out.cell 3
  have p4 := B1.out.cell 4
  have d0 := B2.out.cell 0
  have g0 := B2.out.frozen 0
  have d1 := B2.out.cell 1
  have g1 := B2.out.frozen 1
  have d2 := B2.out.cell 2
  have g2 := B2.out.frozen 2
  have d3 := B2.out.cell 3
  have g3 := B2.out.frozen 3
  have d4 := B2.out.cell 4
  have g4 := B2.out.frozen 4
  go_wp2_with (go_at_call 30; (first | with_reducible refine (rtime_is hx _).mono ?_ | with_reducible refine (rtime_is hy _).mono ?_ | with_reducible refine (rtime_is hz _).mono ?_); rintro e w' ⟨rfl, rfl⟩)
  have z0 : w.heap.size ≤ w.heap.size + 1 := by omega
  refine bodyPost_ret (v := .tuple #[rtV (first x z), .int .i64 0]) ?_ rfl ⟨rfl, ?_⟩
  · simp [results, Try.f14, go_sem, d0, d1, d2, d3, d4, first]
  · exact (((((KB.out.setCell (p := ⟨w.heap.size + 1, 0, none⟩) z0 _).setCell (p := ⟨w.heap.size + 1, 1, none⟩) z0 _).setCell (p := ⟨w.heap.size + 1, 2, none⟩) z0 _).setCell (p := ⟨w.heap.size + 1, 3, none⟩) z0 _).setCell (p := ⟨w.heap.size + 1, 4, none⟩) z0 _)

end Go.Proofs.Ytjmieefbeojkfaa.Rtt
