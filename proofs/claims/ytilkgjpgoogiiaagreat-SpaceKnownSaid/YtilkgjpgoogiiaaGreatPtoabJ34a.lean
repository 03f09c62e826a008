/-
  Plain mathematics of probe timeouts: the base of an estimate in a space, how long nothing may come through, what is doubled as often as a count says. Nothing here speaks of a program.
-/
import Derived.Test.YtilkgjpgoogiiaaGreatRttabJ44a
import Derived.Test.YtilkgjpgoogiiaaGreatSatabJ49a
import Derived.Test.YtilkgjpgoogiiaaGreatSatCa
set_option maxRecDepth 100000
set_option maxHeartbeats 16000000
set_option linter.unusedVariables false
set_option linter.unusedSimpArgs false
namespace Go.Proofs.YtilkgjpgoogiiaaGreat.PtoM
open RttM
theorem num_def (n : Int) : Sat.num n = max 0 (min n 9007199254740991) := (Sat.num_max n).symm
theorem ok_bd {r : Rt} (h : chk r = 0) : 0 ≤ r.s ∧ r.s ≤ 9007199254740991 ∧ 0 ≤ r.v ∧ r.v ≤ 9007199254740991 := by
  rcases ok_cases h with ⟨h1, h2, _, _, h3, _⟩ | ⟨_, _, ⟨h1, h2⟩, ⟨h3, h4⟩, _⟩
  · omega
  · exact ⟨h1, h2, h3, h4⟩
def raw (r : Rt) (sp d : Int) : Int := r.s + max (4 * r.v) 1000000 + (if sp = 2 then Sat.num d else 0)
def bas (r : Rt) (sp d : Int) : Int := if chk r = 0 then (if 0 ≤ sp ∧ sp < 3 then Sat.num (raw r sp d) else 0) else 0
theorem bas_none {r : Rt} (h : ¬ chk r = 0) (sp d : Int) : bas r sp d = 0 := if_neg h
theorem bas_far {r : Rt} {sp : Int} (h : ¬ (0 ≤ sp ∧ sp < 3)) (d : Int) : bas r sp d = 0 := by unfold bas; rw [if_neg h]; split <;> rfl
theorem bas_in {r : Rt} {sp : Int} (h : chk r = 0) (h' : 0 ≤ sp ∧ sp < 3) (d : Int) : bas r sp d = Sat.num (raw r sp d) := by unfold bas; rw [if_pos h, if_pos h']
theorem bas_bd (r : Rt) (sp d : Int) : 0 ≤ bas r sp d ∧ bas r sp d ≤ 9007199254740991 := by
  have := Sat.num_bd (raw r sp d)
  unfold bas
  split
  · split
    · exact this
    · omega
  · omega
theorem sum_one {r : Rt} (h : chk r = 0) {m : Int} (hm : m = max (Sat.mul 4 r.v) 1000000) : Sat.add r.s m = Sat.num (r.s + max (4 * r.v) 1000000) := by
  obtain ⟨h1, h2, h3, h4⟩ := ok_bd h
  subst hm
  unfold Sat.add Sat.mul
  rw [Sat.num_id 4 (by omega) (by omega), Sat.num_id _ h3 h4]
  simp only [num_def]
  omega
theorem bas_low {r : Rt} {sp : Int} (h : chk r = 0) (h' : 0 ≤ sp) (h'' : sp < 2) (d : Int) : bas r sp d = Sat.num (r.s + max (4 * r.v) 1000000) := by
  rw [bas_in h ⟨h', by omega⟩]; unfold raw; rw [if_neg (by omega), Int.add_zero]
theorem bas_app {r : Rt} (h : chk r = 0) (d : Int) : bas r 2 d = Sat.add (Sat.num (r.s + max (4 * r.v) 1000000)) d := by
  obtain ⟨h1, h2, h3, h4⟩ := ok_bd h
  rw [bas_in h (by omega)]; unfold raw; rw [if_pos rfl]
  unfold Sat.add
  have := Sat.num_bd d
  generalize Sat.num d = D at *
  simp only [num_def]
  omega
def pers (r : Rt) (d : Int) : Int := Sat.num (3 * bas r 2 d)
theorem pers_mul (r : Rt) (d : Int) : Sat.mul 3 (bas r 2 d) = pers r d := by
  have h := bas_bd r 2 d
  unfold Sat.mul pers
  rw [Sat.num_id 3 (by omega) (by omega), Sat.num_id _ h.1 h.2]
def dbl (n : Int) : Int := min (2 * n) 9007199254740991
def pow : Nat → Int → Int
  | 0, n => n
  | k + 1, n => dbl (pow k n)
theorem pow_succ' (k : Nat) (n : Int) : pow (k + 1) n = dbl (pow k n) := rfl
theorem pow_add (a b : Nat) (n : Int) : pow (a + b) n = pow b (pow a n) := by
  induction b with
  | zero => rfl
  | succ b ih => rw [← Nat.add_assoc, pow_succ', ih]; rfl
def bk (n count most : Int) : Int := pow (min count most).toNat (Sat.num n)
end Go.Proofs.YtilkgjpgoogiiaaGreat.PtoM
namespace Go.Proofs.YtilkgjpgoogiiaaGreat.Pto
open Go.RowKit RttM Wd Rtt PtoM
theorem add_is {a b c : Int} (h : Sat.add a b = c) (w : World) : Calls Tryz.prog 145 #[.int .i64 a, .int .i64 b] w (Gives (.int .i64 c) w) := by
  rw [← h]; exact Sat.add_any a b w
theorem mul_is {a b c : Int} (h : Sat.mul a b = c) (w : World) : Calls Tryz.prog 164 #[.int .i64 a, .int .i64 b] w (Gives (.int .i64 c) w) := by
  rw [← h]; exact Sat.mul_any a b w
theorem is_is {a : Int} {b : Bool} (h : Sat.isB a = b) (w : World) : Calls Tryz.prog 91 #[.int .i64 a] w (Same (.bool b) w) := by
  rw [← h]; exact Sat.is_any a w
theorem isSpace_any (n : Int) (w : World) : Calls Tryz.prog 193 #[.int .i64 n] w (Same (.bool (decide (0 ≤ n ∧ n < 3))) w) := by
  by_cases h0 : 0 ≤ n
  · by_cases h1 : n < 3
    · rw [decide_eq_true ⟨h0, h1⟩]
      go_enter Tryz.func193, Tryz.ntmps193
      go_wp2
      go_ret
      exact ⟨rfl, rfl⟩
    · rw [decide_eq_false (fun h : 0 ≤ n ∧ n < 3 => h1 h.2)]
      go_enter Tryz.func193, Tryz.ntmps193
      go_wp2
      go_ret
      exact ⟨rfl, rfl⟩
  · rw [decide_eq_false (fun h : 0 ≤ n ∧ n < 3 => h0 h.1)]
    go_enter Tryz.func193, Tryz.ntmps193
    go_wp2
    go_ret
    exact ⟨rfl, rfl⟩
theorem isSpace_is {n : Int} {b : Bool} (h : decide (0 ≤ n ∧ n < 3) = b) (w : World) : Calls Tryz.prog 193 #[.int .i64 n] w (Same (.bool b) w) := h ▸ isSpace_any n w
theorem base_none (r : Rt) (sp d : Int) (w : World) (h : ¬ chk r = 0) : Calls Tryz.prog 165 #[rtV r, .int .i64 sp, .int .i64 d] w (Gives (.int .i64 (bas r sp d)) w) := by
  have h0 : chk r = 2 := by
    apply chk_none
    · intro h1; exact h (chk_new h1)
    · intro h1; exact h (chk_meas h1)
  have c1 := check_any r
  rw [h0] at c1
  rw [bas_none h]
  clear h h0
  obtain ⟨W, hW, A1, KW⟩ : ∃ W, W = w.alloc (.cells #[.int .i64 r.l, .int .i64 r.m, .int .i64 r.s, .int .i64 r.v, .int .i64 r.f] 38) ∧ Blk W w.heap.size 38 (rtA r) ∧ Kept w W := ⟨_, rfl, Blk.new _ _ _, (Kept.refl w).alloc _⟩
  go_enter Tryz.func165, Tryz.ntmps165
  go_wp2_with fail
  rw [← hW]
  clear hW
  refine (c1 _).mono ?_
  rintro e w1 ⟨rfl, K1⟩
  have KB := KW.trans K1
  clear A1 KW K1
  go_wp2_with fail
  go_ret
  exact ⟨rfl, KB⟩
theorem base_far (r : Rt) (sp d : Int) (w : World) (h : chk r = 0) (h' : ¬ (0 ≤ sp ∧ sp < 3)) : Calls Tryz.prog 165 #[rtV r, .int .i64 sp, .int .i64 d] w (Gives (.int .i64 (bas r sp d)) w) := by
  have c1 := check_any r
  rw [h] at c1
  have c2 := isSpace_is (decide_eq_false h')
  rw [bas_far h']
  clear h h'
  obtain ⟨W, hW, A1, KW⟩ : ∃ W, W = w.alloc (.cells #[.int .i64 r.l, .int .i64 r.m, .int .i64 r.s, .int .i64 r.v, .int .i64 r.f] 38) ∧ Blk W w.heap.size 38 (rtA r) ∧ Kept w W := ⟨_, rfl, Blk.new _ _ _, (Kept.refl w).alloc _⟩
  go_enter Tryz.func165, Tryz.ntmps165
  go_wp2_with fail
  rw [← hW]
  clear hW
  refine (c1 _).mono ?_
  rintro e w1 ⟨rfl, K1⟩
  have KB := KW.trans K1
  clear A1 KW K1
  go_wp2_with fail
  refine (c2 _).mono ?_
  rintro e w' ⟨rfl, rfl⟩
  go_wp2_with fail
  go_ret
  exact ⟨rfl, KB⟩
structure Bx (w W : World) (q : Nat) (r : Rt) : Prop where
  b : Blk W q 38 (rtA r)
  k : Kept w W
theorem Bx.on {w W W' : World} {q : Nat} {r : Rt} (h : Bx w W q r) (k : Kept W W') : Bx w W' q r := ⟨h.b.kept k, h.k.trans k⟩
theorem Bx.new (w : World) (r : Rt) : Bx w (w.alloc (.cells #[.int .i64 r.l, .int .i64 r.m, .int .i64 r.s, .int .i64 r.v, .int .i64 r.f] 38)) w.heap.size r := ⟨Blk.new _ _ _, (Kept.refl w).alloc _⟩
theorem Bx.cells {w W : World} {q : Nat} {r : Rt} (h : Bx w W q r) : W.cell? ⟨q, 0, none⟩ = some (.int .i64 r.l) ∧ W.cell? ⟨q, 1, none⟩ = some (.int .i64 r.m) ∧ W.cell? ⟨q, 2, none⟩ = some (.int .i64 r.s) ∧ W.cell? ⟨q, 3, none⟩ = some (.int .i64 r.v) ∧ W.cell? ⟨q, 4, none⟩ = some (.int .i64 r.f) :=
  ⟨h.b.cell 0, h.b.cell 1, h.b.cell 2, h.b.cell 3, h.b.cell 4⟩
theorem base_low (r : Rt) (sp d : Int) (w : World) (h : chk r = 0) (h0 : 0 ≤ sp) (h1 : sp < 2) : Calls Tryz.prog 165 #[rtV r, .int .i64 sp, .int .i64 d] w (Gives (.int .i64 (bas r sp d)) w) := by
  have c1 := check_any r
  rw [h] at c1
  have c2 := isSpace_is (n := sp) (b := true) (decide_eq_true ⟨h0, by omega⟩)
  obtain ⟨M, hM⟩ : ∃ M, Sat.mul 4 r.v = M := ⟨_, rfl⟩
  have hs := sum_one h (m := max M 1000000) (by rw [hM])
  have c3 := mul_is hM
  have c4 := add_is hs
  rw [bas_low h h0 h1]
  generalize Sat.num (r.s + max (4 * r.v) 1000000) = N at *
  have hsp : (sp == 2) = false := by simp only [beq_eq_false_iff_ne]; omega
  clear h hs h0 h1 hM
  obtain ⟨W, hW, A1⟩ : ∃ W, W = w.alloc (.cells #[.int .i64 r.l, .int .i64 r.m, .int .i64 r.s, .int .i64 r.v, .int .i64 r.f] 38) ∧ Bx w W w.heap.size r := ⟨_, rfl, Bx.new w r⟩
  go_enter Tryz.func165, Tryz.ntmps165
  go_wp2_with fail
  rw [← hW]
  clear hW
  refine (c1 _).mono ?_
  rintro e w1 ⟨rfl, K1⟩
  have B1 := A1.on K1
  clear A1 K1
  go_wp2_with fail
  refine (c2 _).mono ?_
  rintro e w' ⟨rfl, rfl⟩
  have D := Lib.hid (B1.on (Kept.refl w1).drew)
  have p2 := B1.b.cell 2
  have p3 := B1.b.cell 3
  have p2' := D.out.b.cell 2
  have p3' := D.out.b.cell 3
  clear B1
  go_wp2_with fail
  go_region_with (first | (go_at_call 164; (refine (c3 _).mono ?_); rintro e w' ⟨rfl, hk⟩; have D := Lib.hid (D.out.on hk); have q2 := D.out.b.cell 2) | (go_at_call 145; (refine (c4 _).mono ?_); rintro e w' ⟨rfl, hk⟩; have D := Lib.hid (D.out.on hk)))
  all_goals
    go_wp2_with fail
    go_ret
    exact ⟨rfl, D.out.k⟩
end Go.Proofs.YtilkgjpgoogiiaaGreat.Pto
namespace Go.Proofs.YtilkgjpgoogiiaaGreat.Pto
open Go.RowKit RttM Wd Rtt PtoM
theorem base_app (r : Rt) (d : Int) (w : World) (h : chk r = 0) : Calls Tryz.prog 165 #[rtV r, .int .i64 2, .int .i64 d] w (Gives (.int .i64 (bas r 2 d)) w) := by
  have c1 := check_any r
  rw [h] at c1
  have c2 := isSpace_is (n := 2) (b := true) (by decide)
  obtain ⟨M, hM⟩ : ∃ M, Sat.mul 4 r.v = M := ⟨_, rfl⟩
  have hs := sum_one h (m := max M 1000000) (by rw [hM])
  have c3 := mul_is hM
  have c4 := add_is hs
  have c5 := add_is (bas_app h d).symm
  generalize Sat.num (r.s + max (4 * r.v) 1000000) = N at *
  generalize bas r 2 d = N2 at *
  clear h hs hM
  obtain ⟨W, hW, A1⟩ : ∃ W, W = w.alloc (.cells #[.int .i64 r.l, .int .i64 r.m, .int .i64 r.s, .int .i64 r.v, .int .i64 r.f] 38) ∧ Bx w W w.heap.size r := ⟨_, rfl, Bx.new w r⟩
  go_enter Tryz.func165, Tryz.ntmps165
  go_wp2_with fail
  rw [← hW]
  clear hW
  refine (c1 _).mono ?_
  rintro e w1 ⟨rfl, K1⟩
  have B1 := A1.on K1
  clear A1 K1
  go_wp2_with fail
  refine (c2 _).mono ?_
  rintro e w' ⟨rfl, rfl⟩
  have D := Lib.hid (B1.on (Kept.refl w1).drew)
  have p2 := B1.b.cell 2
  have p3 := B1.b.cell 3
  have p2' := D.out.b.cell 2
  have p3' := D.out.b.cell 3
  clear B1
  go_wp2_with fail
  go_region_with (first | (go_at_call 164; (refine (c3 _).mono ?_); rintro e w' ⟨rfl, hk⟩; have D := Lib.hid (D.out.on hk); have q2 := D.out.b.cell 2) | (go_at_call 145; (refine (c4 _).mono ?_); rintro e w' ⟨rfl, hk⟩; have D := Lib.hid (D.out.on hk)))
  all_goals
    go_wp2_with fail
    refine (c5 _).mono ?_
    rintro e w9 ⟨rfl, K9⟩
    go_wp2_with fail
    go_ret
    exact ⟨rfl, D.out.k.trans K9⟩
theorem base_any (r : Rt) (sp d : Int) (w : World) : Calls Tryz.prog 165 #[rtV r, .int .i64 sp, .int .i64 d] w (Gives (.int .i64 (bas r sp d)) w) := by
  by_cases h : chk r = 0
  · by_cases h' : 0 ≤ sp ∧ sp < 3
    · by_cases h2 : sp = 2
      · subst h2; exact base_app r d w h
      · exact base_low r sp d w h h'.1 (by omega)
    · exact base_far r sp d w h h'
  · exact base_none r sp d w h
theorem base_is {r : Rt} {sp d n : Int} (h : bas r sp d = n) (w : World) : Calls Tryz.prog 165 #[rtV r, .int .i64 sp, .int .i64 d] w (Gives (.int .i64 n) w) := by rw [← h]; exact base_any r sp d w
theorem persist_any (r : Rt) (d : Int) (w : World) : Calls Tryz.prog 119 #[rtV r, .int .i64 d] w (Gives (.int .i64 (pers r d)) w) := by
  obtain ⟨N, hN⟩ : ∃ N, bas r 2 d = N := ⟨_, rfl⟩
  have c1 := base_is hN
  have c2 := mul_is (pers_mul r d)
  rw [hN] at c2
  clear hN
  obtain ⟨W, hW, KW⟩ : ∃ W, W = w.alloc (.cells #[.int .i64 r.l, .int .i64 r.m, .int .i64 r.s, .int .i64 r.v, .int .i64 r.f] 38) ∧ Kept w W := ⟨_, rfl, (Kept.refl w).alloc _⟩
  go_enter Tryz.func119, Tryz.ntmps119
  go_wp2_with fail
  rw [← hW]
  clear hW
  refine (c1 _).mono ?_
  rintro e w1 ⟨rfl, K1⟩
  go_wp2_with fail
  refine (c2 _).mono ?_
  rintro e w2 ⟨rfl, K2⟩
  go_wp2_with fail
  go_ret
  exact ⟨rfl, (KW.trans K1).trans K2⟩
end Go.Proofs.YtilkgjpgoogiiaaGreat.Pto
