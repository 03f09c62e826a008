/-
  Contracts of package rtt's functions: New, Sample, Held, Greatest.
-/
import Derived.Test.YtjmieefbeojkfaaRttY
namespace Go.Proofs.Ytjmieefbeojkfaa.Rtt
open Go.RowKit RttM Wd
set_option linter.unusedVariables false
set_option linter.unusedSimpArgs false

set_option maxRecDepth 100000 in
theorem new_any (a : Int) (w : World) : Calls Try.prog 11 #[.int .i64 a] w (Gives (.tuple #[rtV (newR a), .int .i64 (newE a)]) w) := by
  by_cases h1 : a < 1000000
  · rw [newR_low h1, newE_low h1]
    go_enter Try.func11, Try.ntmps11
    go_wp2_with fail
    refine bodyPost_ret (v := .tuple #[rtV zero, .int .i64 9]) ?_ rfl ⟨rfl, (Kept.refl w).alloc _⟩
    simp [results, Try.f11, go_sem, zero]
  · by_cases h2 : 60000000000 < a
    · rw [newR_high h2, newE_high h2]
      go_enter Try.func11, Try.ntmps11
      go_wp2_with fail
      refine bodyPost_ret (v := .tuple #[rtV zero, .int .i64 9]) ?_ rfl ⟨rfl, (Kept.refl w).alloc _⟩
      simp [results, Try.f11, go_sem, zero]
    · rw [newR_in h1 h2, newE_in h1 h2]
      have B := Blk.new w 23 (rtA zero)
      have KW := (Kept.refl w).alloc (.cells (rtA zero) 23)
      go_enter Try.func11, Try.ntmps11
      go_wp2_with fail
      refine (assumed_any _ _ (by omega) (by omega)).mono ?_
      rintro e w' ⟨rfl, hk⟩
      have B2 := B.kept hk
      have d0 := B2.cell 0
      have d1 := B2.cell 1
      have d2 := B2.cell 2
      have d3 := B2.cell 3
      have d4 := B2.cell 4
      have g0 := B2.frozen 0
      have g1 := B2.frozen 1
      have g2 := B2.frozen 2
      have g3 := B2.frozen 3
      have g4 := B2.frozen 4
      have K2 := KW.trans hk
      clear B B2 KW hk
      go_wp2_with fail
      have z0 : w.heap.size ≤ w.heap.size := Nat.le_refl _
      refine bodyPost_ret (v := .tuple #[rtV (fresh a), .int .i64 0]) ?_ rfl ⟨rfl, ?_⟩
      · simp [results, Try.f11, go_sem, d0, d1, d2, d3, d4]
      · exact ((((K2.setCell (p := ⟨w.heap.size, 0, none⟩) z0 _).setCell (p := ⟨w.heap.size, 1, none⟩) z0 _).setCell (p := ⟨w.heap.size, 2, none⟩) z0 _).setCell (p := ⟨w.heap.size, 3, none⟩) z0 _).setCell (p := ⟨w.heap.size, 4, none⟩) z0 _

theorem two (w : World) (A B : Array Value) (a b : TypeId) : ∃ W, W = (w.alloc (.cells A a)).alloc (.cells B b) ∧ Blk W w.heap.size a A ∧ Blk W (w.heap.size + 1) b B ∧ Kept w W := by
  refine ⟨_, rfl, (Blk.new w a A).kept ((Kept.refl _).alloc _), ?_, ((Kept.refl w).alloc _).alloc _⟩
  have := Blk.new (w.alloc (.cells A a)) b B
  rw [World.size_alloc] at this
  exact this

set_option maxRecDepth 100000 in
theorem sample_bad (r : Rt) (x y z : Int) (w : World) (h1 : ¬ isNew r) (h2 : ¬ meas r) : Calls Try.prog 13 #[rtV r, .int .i64 x, .int .i64 y, .int .i64 z] w (Gives (.tuple #[rtV zero, .int .i64 2]) w) := by
  have c1 := check_any r
  rw [chk_none h1 h2] at c1
  go_enter Try.func13, Try.ntmps13
  go_wp2_with fail
  obtain ⟨W, hW, A1, A2, KW⟩ := two w #[.int .i64 r.l, .int .i64 r.m, .int .i64 r.s, .int .i64 r.v, .int .i64 r.f] #[.int .i64 0, .int .i64 0, .int .i64 0, .int .i64 0, .int .i64 0] 23 23
  rw [← hW]
  clear hW
  refine (c1 _).mono ?_
  rintro e w1 ⟨rfl, K1⟩
  have B1 := Lib.hid (A1.kept K1)
  have B2 := Lib.hid (A2.kept K1)
  have KB := Lib.hid (KW.trans K1)
  clear A1 A2 KW K1
  have d0 := B2.out.cell 0
  have g0 := B2.out.frozen 0
  have d1 := B2.out.cell 1
  have g1 := B2.out.frozen 1
  have d2 := B2.out.cell 2
  have g2 := B2.out.frozen 2
  have d3 := B2.out.cell 3
  have g3 := B2.out.frozen 3
  have d4 := B2.out.cell 4
  have g4 := B2.out.frozen 4
  go_wp2_with fail
  have z0 : w.heap.size ≤ w.heap.size + 1 := by omega
  refine bodyPost_ret (v := .tuple #[rtV zero, .int .i64 2]) ?_ rfl ⟨rfl, ?_⟩
  · simp [results, Try.f13, go_sem, d0, d1, d2, d3, d4, zero]
  · exact (((((KB.out.setCell (p := ⟨w.heap.size + 1, 0, none⟩) z0 _).setCell (p := ⟨w.heap.size + 1, 1, none⟩) z0 _).setCell (p := ⟨w.heap.size + 1, 2, none⟩) z0 _).setCell (p := ⟨w.heap.size + 1, 3, none⟩) z0 _).setCell (p := ⟨w.heap.size + 1, 4, none⟩) z0 _)

set_option maxRecDepth 100000 in
theorem sample_range (r : Rt) (x y z : Int) (w : World) (h1 : chk r = 0) {bx by_ bz : Bool} (hx : Hid (decide (tm x) = bx)) (hy : Hid (decide (tm y) = by_)) (hz : Hid (decide (tm z) = bz)) (hb : (bx && (by_ && bz)) = false) :
    Calls Try.prog 13 #[rtV r, .int .i64 x, .int .i64 y, .int .i64 z] w (Gives (.tuple #[rtV zero, .int .i64 9]) w) := by
  have c1 := check_any r
  rw [h1] at c1
  have key : bx = false ∨ (bx = true ∧ by_ = false) ∨ (bx = true ∧ by_ = true ∧ bz = false) := by cases bx <;> cases by_ <;> cases bz <;> simp_all
  clear hb
  rcases key with rfl | ⟨rfl, rfl⟩ | ⟨rfl, rfl, rfl⟩
  all_goals
    go_enter Try.func13, Try.ntmps13
    go_wp2_with fail
    obtain ⟨W, hW, A1, A2, KW⟩ := two w #[.int .i64 r.l, .int .i64 r.m, .int .i64 r.s, .int .i64 r.v, .int .i64 r.f] #[.int .i64 0, .int .i64 0, .int .i64 0, .int .i64 0, .int .i64 0] 23 23
    rw [← hW]
    clear hW
    refine (c1 _).mono ?_
    rintro e w1 ⟨rfl, K1⟩
    have B1 := Lib.hid (A1.kept K1)
    have B2 := Lib.hid (A2.kept K1)
    have KB := Lib.hid (KW.trans K1)
    clear A1 A2 KW K1
    have d0 := B2.out.cell 0
    have g0 := B2.out.frozen 0
    have d1 := B2.out.cell 1
    have g1 := B2.out.frozen 1
    have d2 := B2.out.cell 2
    have g2 := B2.out.frozen 2
    have d3 := B2.out.cell 3
    have g3 := B2.out.frozen 3
    have d4 := B2.out.cell 4
    have g4 := B2.out.frozen 4
    go_wp2_with (go_at_call 26; (first | with_reducible refine (isTime_is hx _).mono ?_ | with_reducible refine (isTime_is hy _).mono ?_ | with_reducible refine (isTime_is hz _).mono ?_); rintro e w' ⟨rfl, rfl⟩)
    have z0 : w.heap.size ≤ w.heap.size + 1 := by omega
    refine bodyPost_ret (v := .tuple #[rtV zero, .int .i64 9]) ?_ rfl ⟨rfl, ?_⟩
    · simp [results, Try.f13, go_sem, d0, d1, d2, d3, d4, zero]
    · exact (((((KB.out.setCell (p := ⟨w.heap.size + 1, 0, none⟩) z0 _).setCell (p := ⟨w.heap.size + 1, 1, none⟩) z0 _).setCell (p := ⟨w.heap.size + 1, 2, none⟩) z0 _).setCell (p := ⟨w.heap.size + 1, 3, none⟩) z0 _).setCell (p := ⟨w.heap.size + 1, 4, none⟩) z0 _)

end Go.Proofs.Ytjmieefbeojkfaa.Rtt
