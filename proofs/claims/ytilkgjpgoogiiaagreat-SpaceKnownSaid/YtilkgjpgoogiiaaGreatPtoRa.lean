/-
  Contracts of the document's own answers of layer 8: time, Base, Backed, Due, Persist.
-/
import Derived.Test.YtilkgjpgoogiiaaGreatPtoabJ34a
import Derived.Test.YtilkgjpgoogiiaaGreatRttbJ16a
set_option maxRecDepth 100000
set_option maxHeartbeats 16000000
set_option linter.unusedVariables false
set_option linter.unusedSimpArgs false
namespace Go.Proofs.YtilkgjpgoogiiaaGreat.Pto
open Go.RowKit RttM Wd Rtt PtoM
theorem rtime8_any (n : Int) (w : World) : Calls Tryz.prog 185 #[.int .i64 n] w (Same (.int .i64 (Sat.num n)) w) := by
  rw [num_def]
  go_enter Tryz.func185, Tryz.ntmps185
  go_wp2
  all_goals
    go_ret
    exact ⟨ret_int (by (repeat' split at *) <;> omega), rfl⟩
theorem rtime8_is {n c : Int} (h : Sat.num n = c) (w : World) : Calls Tryz.prog 185 #[.int .i64 n] w (Same (.int .i64 c) w) := h ▸ rtime8_any n w
theorem rbase_none (r : Rt) (sp d : Int) (w : World) (h : ¬ chk r = 0) : Calls Tryz.prog 186 #[rtV r, .int .i64 sp, .int .i64 d] w (Gives (.int .i64 (bas r sp d)) w) := by
  have h0 : chk r = 2 := by
    apply chk_none
    · intro h1; exact h (chk_new h1)
    · intro h1; exact h (chk_meas h1)
  have c1 := rcheck_any r
  rw [h0] at c1
  rw [bas_none h]
  clear h h0
  obtain ⟨W, hW, KW⟩ : ∃ W, W = w.alloc (.cells #[.int .i64 r.l, .int .i64 r.m, .int .i64 r.s, .int .i64 r.v, .int .i64 r.f] 38) ∧ Kept w W := ⟨_, rfl, (Kept.refl w).alloc _⟩
  go_enter Tryz.func186, Tryz.ntmps186
  go_wp2_with fail
  rw [← hW]
  clear hW
  refine (c1 _).mono ?_
  rintro e w1 ⟨rfl, K1⟩
  have KB := KW.trans K1
  clear KW K1
  go_wp2_with fail
  go_ret
  exact ⟨rfl, KB⟩
theorem rbase_far (r : Rt) (sp d : Int) (w : World) (h : chk r = 0) (h' : ¬ (0 ≤ sp ∧ sp < 3)) : Calls Tryz.prog 186 #[rtV r, .int .i64 sp, .int .i64 d] w (Gives (.int .i64 (bas r sp d)) w) := by
  have c1 := rcheck_any r
  rw [h] at c1
  rw [bas_far h']
  have h2 : sp < 0 ∨ (¬ sp < 0 ∧ 3 ≤ sp) := by omega
  clear h h'
  obtain ⟨W, hW, KW⟩ : ∃ W, W = w.alloc (.cells #[.int .i64 r.l, .int .i64 r.m, .int .i64 r.s, .int .i64 r.v, .int .i64 r.f] 38) ∧ Kept w W := ⟨_, rfl, (Kept.refl w).alloc _⟩
  rcases h2 with h2 | ⟨h2, h3⟩
  all_goals
    go_enter Tryz.func186, Tryz.ntmps186
    go_wp2_with fail
    rw [← hW]
    clear hW
    refine (c1 _).mono ?_
    rintro e w1 ⟨rfl, K1⟩
    have KB := KW.trans K1
    clear KW K1
    go_wp2_with fail
    go_ret
    exact ⟨rfl, KB⟩
theorem rbase_low (r : Rt) (sp d : Int) (w : World) (h : chk r = 0) (h0 : 0 ≤ sp) (h1 : sp < 2) : Calls Tryz.prog 186 #[rtV r, .int .i64 sp, .int .i64 d] w (Gives (.int .i64 (bas r sp d)) w) := by
  have c1 := rcheck_any r
  rw [h] at c1
  have hb := ok_bd h
  have hw1 : IntKind.i64.wrap (4 * r.v) = 4 * r.v := IntWalk.i64_in _ (by omega)
  have hw2 : IntKind.i64.wrap (r.s + max (4 * r.v) 1000000) = r.s + max (4 * r.v) 1000000 := IntWalk.i64_in _ (by omega)
  have c2 := rtime8_is (bas_low h h0 h1 d).symm
  generalize hN : bas r sp d = N at *
  have hsp : (sp == 2) = false := by simp only [beq_eq_false_iff_ne]; omega
  have hs3 : ¬ 3 ≤ sp := by omega
  have hs0 : ¬ sp < 0 := by omega
  clear h h0 h1 hN hb
  obtain ⟨W, hW, A1⟩ : ∃ W, W = w.alloc (.cells #[.int .i64 r.l, .int .i64 r.m, .int .i64 r.s, .int .i64 r.v, .int .i64 r.f] 38) ∧ Bx w W w.heap.size r := ⟨_, rfl, Bx.new w r⟩
  go_enter Tryz.func186, Tryz.ntmps186
  go_wp2_with fail
  rw [← hW]
  clear hW
  refine (c1 _).mono ?_
  rintro e w1 ⟨rfl, K1⟩
  have B1 := A1.on K1
  clear A1 K1
  have KB := Lib.hid B1.k
  have p2 := B1.b.cell 2
  have p3 := B1.b.cell 3
  have p2' : w1.drew.cell? _ = _ := p2
  have p3' : w1.drew.cell? _ = _ := p3
  clear B1
  go_wp2_with fail
  all_goals
    refine (c2 _).mono ?_
    rintro e w' ⟨rfl, rfl⟩
    go_wp2_with fail
    go_ret
    exact ⟨rfl, KB.out⟩
theorem rbase_app (r : Rt) (d : Int) (w : World) (h : chk r = 0) : Calls Tryz.prog 186 #[rtV r, .int .i64 2, .int .i64 d] w (Gives (.int .i64 (bas r 2 d)) w) := by
  have c1 := rcheck_any r
  rw [h] at c1
  have hb := ok_bd h
  have hd := Sat.num_bd d
  have e : Sat.num (r.s + max (4 * r.v) 1000000 + Sat.num d) = bas r 2 d := by rw [bas_in h (by omega)]; unfold raw; rw [if_pos rfl]
  obtain ⟨D, hD⟩ : ∃ D, Sat.num d = D := ⟨_, rfl⟩
  rw [hD] at e hd
  have hw1 : IntKind.i64.wrap (4 * r.v) = 4 * r.v := IntWalk.i64_in _ (by omega)
  have hw2 : IntKind.i64.wrap (r.s + max (4 * r.v) 1000000) = r.s + max (4 * r.v) 1000000 := IntWalk.i64_in _ (by omega)
  have hw3 : IntKind.i64.wrap (r.s + max (4 * r.v) 1000000 + D) = r.s + max (4 * r.v) 1000000 + D := IntWalk.i64_in _ (by omega)
  have c2 := rtime8_is e
  have c3 := rtime8_is hD
  generalize hN : bas r 2 d = N at *
  clear h hN hb hd e hD
  obtain ⟨W, hW, A1⟩ : ∃ W, W = w.alloc (.cells #[.int .i64 r.l, .int .i64 r.m, .int .i64 r.s, .int .i64 r.v, .int .i64 r.f] 38) ∧ Bx w W w.heap.size r := ⟨_, rfl, Bx.new w r⟩
  go_enter Tryz.func186, Tryz.ntmps186
  go_wp2_with fail
  rw [← hW]
  clear hW
  refine (c1 _).mono ?_
  rintro e w1 ⟨rfl, K1⟩
  have B1 := A1.on K1
  clear A1 K1
  have KB := Lib.hid B1.k
  have p2 := B1.b.cell 2
  have p3 := B1.b.cell 3
  have p2' : w1.drew.cell? _ = _ := p2
  have p3' : w1.drew.cell? _ = _ := p3
  clear B1
  go_wp2_with fail
  all_goals
    refine (c3 _).mono ?_
    rintro e w' ⟨rfl, rfl⟩
    go_wp2_with fail
    refine (c2 _).mono ?_
    rintro e w' ⟨rfl, rfl⟩
    go_wp2_with fail
    go_ret
    exact ⟨rfl, KB.out⟩
theorem rbase_any (r : Rt) (sp d : Int) (w : World) : Calls Tryz.prog 186 #[rtV r, .int .i64 sp, .int .i64 d] w (Gives (.int .i64 (bas r sp d)) w) := by
  by_cases h : chk r = 0
  · by_cases h' : 0 ≤ sp ∧ sp < 3
    · by_cases h2 : sp = 2
      · subst h2; exact rbase_app r d w h
      · exact rbase_low r sp d w h h'.1 (by omega)
    · exact rbase_far r sp d w h h'
  · exact rbase_none r sp d w h
theorem rbase_is {r : Rt} {sp d n : Int} (h : bas r sp d = n) (w : World) : Calls Tryz.prog 186 #[rtV r, .int .i64 sp, .int .i64 d] w (Gives (.int .i64 n) w) := by rw [← h]; exact rbase_any r sp d w
theorem rpersist_any (r : Rt) (d : Int) (w : World) : Calls Tryz.prog 157 #[rtV r, .int .i64 d] w (Gives (.int .i64 (pers r d)) w) := by
  have hb := bas_bd r 2 d
  obtain ⟨N, hN⟩ : ∃ N, bas r 2 d = N := ⟨_, rfl⟩
  have c1 := rbase_is hN
  have c2 := rtime8_is (show Sat.num (3 * bas r 2 d) = pers r d from rfl)
  rw [hN] at c2 hb
  have hw : IntKind.i64.wrap (3 * N) = 3 * N := IntWalk.i64_in _ (by omega)
  clear hN
  obtain ⟨W, hW, KW⟩ : ∃ W, W = w.alloc (.cells #[.int .i64 r.l, .int .i64 r.m, .int .i64 r.s, .int .i64 r.v, .int .i64 r.f] 38) ∧ Kept w W := ⟨_, rfl, (Kept.refl w).alloc _⟩
  go_enter Tryz.func157, Tryz.ntmps157
  go_wp2_with fail
  rw [← hW]
  clear hW
  refine (c1 _).mono ?_
  rintro e w1 ⟨rfl, K1⟩
  go_wp2_with fail
  refine (c2 _).mono ?_
  rintro e w2 ⟨rfl, rfl⟩
  go_wp2_with fail
  go_ret
  exact ⟨rfl, KW.trans K1⟩
end Go.Proofs.YtilkgjpgoogiiaaGreat.Pto
