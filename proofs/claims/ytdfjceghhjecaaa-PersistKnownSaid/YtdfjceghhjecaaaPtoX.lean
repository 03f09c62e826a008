/-
  Contracts of package pto's functions: Base in the last space, Persist, Backed.
-/
import Derived.Test.YtdfjceghhjecaaaPtoW
namespace Go.Proofs.Ytdfjceghhjecaaa.Pto
open Go.RowKit RttM Wd Rtt PtoM
set_option linter.unusedVariables false
set_option linter.unusedSimpArgs false

set_option maxRecDepth 100000 in
set_option maxHeartbeats 1000000 in
theorem base_app (r : Rt) (d : Int) (w : World) (h : chk r = 0) : Calls Try.prog 52 #[rtV r, .int .i64 2, .int .i64 d] w (Gives (.int .i64 (bas r 2 d)) w) := by
  have c1 := check_any r
  rw [h] at c1
  have c2 := isSpace_is (n := 2) (b := true) (by decide)
  obtain ⟨M, hM⟩ : ∃ M, Sat.mul 4 r.v = M := ⟨_, rfl⟩
  have hs := sum_one h (m := max M 1000000) (by rw [hM])
  have c3 := mul_is hM
  have c4 := add_is hs
  have c5 := add_is (bas_app h d).symm
  generalize Sat.num (r.s + max (4 * r.v) 1000000) = N at *
  generalize bas r 2 d = N2 at *
  clear h hs hM
  obtain ⟨W, hW, A1⟩ : ∃ W, W = w.alloc (.cells #[.int .i64 r.l, .int .i64 r.m, .int .i64 r.s, .int .i64 r.v, .int .i64 r.f] 42) ∧ Bx w W w.heap.size r := ⟨_, rfl, Bx.new w r⟩
  go_enter Try.func52, Try.ntmps52
  go_wp2_with fail
  rw [← hW]
  clear hW
  refine (c1 _).mono ?_
  rintro e w1 ⟨rfl, K1⟩
  have B1 := A1.on K1
  clear A1 K1
  go_wp2_with fail
  refine (c2 _).mono ?_
  rintro e w' ⟨rfl, rfl⟩
  have D := Lib.hid (B1.on (Kept.refl w1).drew)
  have p2 := B1.b.cell 2
  have p3 := B1.b.cell 3
  have p2' := D.out.b.cell 2
  have p3' := D.out.b.cell 3
  clear B1
  go_wp2_with fail
  go_region_with (first | (go_at_call 51; (refine (c3 _).mono ?_); rintro e w' ⟨rfl, hk⟩; have D := Lib.hid (D.out.on hk); have q2 := D.out.b.cell 2) | (go_at_call 72; (refine (c4 _).mono ?_); rintro e w' ⟨rfl, hk⟩; have D := Lib.hid (D.out.on hk)))
  all_goals
    go_wp2_with fail
    refine (c5 _).mono ?_
    rintro e w9 ⟨rfl, K9⟩
    go_wp2_with fail
    go_ret
    exact ⟨rfl, D.out.k.trans K9⟩

set_option maxRecDepth 100000 in
theorem base_any (r : Rt) (sp d : Int) (w : World) : Calls Try.prog 52 #[rtV r, .int .i64 sp, .int .i64 d] w (Gives (.int .i64 (bas r sp d)) w) := by
  by_cases h : chk r = 0
  · by_cases h' : 0 ≤ sp ∧ sp < 3
    · by_cases h2 : sp = 2
      · subst h2; exact base_app r d w h
      · exact base_low r sp d w h h'.1 (by omega)
    · exact base_far r sp d w h h'
  · exact base_none r sp d w h
set_option maxRecDepth 100000 in
theorem base_is {r : Rt} {sp d n : Int} (h : bas r sp d = n) (w : World) : Calls Try.prog 52 #[rtV r, .int .i64 sp, .int .i64 d] w (Gives (.int .i64 n) w) := by rw [← h]; exact base_any r sp d w

set_option maxRecDepth 100000 in
theorem persist_any (r : Rt) (d : Int) (w : World) : Calls Try.prog 30 #[rtV r, .int .i64 d] w (Gives (.int .i64 (pers r d)) w) := by
  obtain ⟨N, hN⟩ : ∃ N, bas r 2 d = N := ⟨_, rfl⟩
  have c1 := base_is hN
  have c2 := mul_is (pers_mul r d)
  rw [hN] at c2
  clear hN
  obtain ⟨W, hW, KW⟩ : ∃ W, W = w.alloc (.cells #[.int .i64 r.l, .int .i64 r.m, .int .i64 r.s, .int .i64 r.v, .int .i64 r.f] 42) ∧ Kept w W := ⟨_, rfl, (Kept.refl w).alloc _⟩
  go_enter Try.func30, Try.ntmps30
  go_wp2_with fail
  rw [← hW]
  clear hW
  refine (c1 _).mono ?_
  rintro e w1 ⟨rfl, K1⟩
  go_wp2_with fail
  refine (c2 _).mono ?_
  rintro e w2 ⟨rfl, K2⟩
  go_wp2_with fail
  go_ret
  exact ⟨rfl, (KW.trans K1).trans K2⟩

end Go.Proofs.Ytdfjceghhjecaaa.Pto
