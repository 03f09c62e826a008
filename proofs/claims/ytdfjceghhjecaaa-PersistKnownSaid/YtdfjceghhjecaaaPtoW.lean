/-
  Contracts of package pto's functions: isSpace, Base, Persist, Due.
-/
import Derived.Test.YtdfjceghhjecaaaRttWX
import Derived.Test.YtdfjceghhjecaaaSatC
import Derived.Test.YtdfjceghhjecaaaPtoM
namespace Go.Proofs.Ytdfjceghhjecaaa.Pto
open Go.RowKit RttM Wd Rtt PtoM
set_option linter.unusedVariables false
set_option linter.unusedSimpArgs false

set_option maxRecDepth 100000 in
theorem add_is {a b c : Int} (h : Sat.add a b = c) (w : World) : Calls Try.prog 72 #[.int .i64 a, .int .i64 b] w (Gives (.int .i64 c) w) := by
  rw [← h]; exact Sat.add_any a b w
set_option maxRecDepth 100000 in
theorem mul_is {a b c : Int} (h : Sat.mul a b = c) (w : World) : Calls Try.prog 51 #[.int .i64 a, .int .i64 b] w (Gives (.int .i64 c) w) := by
  rw [← h]; exact Sat.mul_any a b w
set_option maxRecDepth 100000 in
theorem is_is {a : Int} {b : Bool} (h : Sat.isB a = b) (w : World) : Calls Try.prog 24 #[.int .i64 a] w (Same (.bool b) w) := by
  rw [← h]; exact Sat.is_any a w

set_option maxRecDepth 100000 in
theorem isSpace_any (n : Int) (w : World) : Calls Try.prog 71 #[.int .i64 n] w (Same (.bool (decide (0 ≤ n ∧ n < 3))) w) := by
  by_cases h0 : 0 ≤ n
  · by_cases h1 : n < 3
    · rw [decide_eq_true ⟨h0, h1⟩]
      go_enter Try.func71, Try.ntmps71
      go_wp2
      go_ret
      exact ⟨rfl, rfl⟩
    · rw [decide_eq_false (fun h : 0 ≤ n ∧ n < 3 => h1 h.2)]
      go_enter Try.func71, Try.ntmps71
      go_wp2
      go_ret
      exact ⟨rfl, rfl⟩
  · rw [decide_eq_false (fun h : 0 ≤ n ∧ n < 3 => h0 h.1)]
    go_enter Try.func71, Try.ntmps71
    go_wp2
    go_ret
    exact ⟨rfl, rfl⟩
set_option maxRecDepth 100000 in
theorem isSpace_is {n : Int} {b : Bool} (h : decide (0 ≤ n ∧ n < 3) = b) (w : World) : Calls Try.prog 71 #[.int .i64 n] w (Same (.bool b) w) := h ▸ isSpace_any n w

set_option maxRecDepth 100000 in
theorem base_none (r : Rt) (sp d : Int) (w : World) (h : ¬ chk r = 0) : Calls Try.prog 52 #[rtV r, .int .i64 sp, .int .i64 d] w (Gives (.int .i64 (bas r sp d)) w) := by
  have h0 : chk r = 2 := by
    apply chk_none
    · intro h1; exact h (chk_new h1)
    · intro h1; exact h (chk_meas h1)
  have c1 := check_any r
  rw [h0] at c1
  rw [bas_none h]
  clear h h0
  obtain ⟨W, hW, A1, KW⟩ : ∃ W, W = w.alloc (.cells #[.int .i64 r.l, .int .i64 r.m, .int .i64 r.s, .int .i64 r.v, .int .i64 r.f] 42) ∧ Blk W w.heap.size 42 (rtA r) ∧ Kept w W := ⟨_, rfl, Blk.new _ _ _, (Kept.refl w).alloc _⟩
  go_enter Try.func52, Try.ntmps52
  go_wp2_with fail
  rw [← hW]
  clear hW
  refine (c1 _).mono ?_
  rintro e w1 ⟨rfl, K1⟩
  have KB := KW.trans K1
  clear A1 KW K1
  go_wp2_with fail
  go_ret
  exact ⟨rfl, KB⟩
set_option maxRecDepth 100000 in
theorem base_far (r : Rt) (sp d : Int) (w : World) (h : chk r = 0) (h' : ¬ (0 ≤ sp ∧ sp < 3)) : Calls Try.prog 52 #[rtV r, .int .i64 sp, .int .i64 d] w (Gives (.int .i64 (bas r sp d)) w) := by
  have c1 := check_any r
  rw [h] at c1
  have c2 := isSpace_is (decide_eq_false h')
  rw [bas_far h']
  clear h h'
  obtain ⟨W, hW, A1, KW⟩ : ∃ W, W = w.alloc (.cells #[.int .i64 r.l, .int .i64 r.m, .int .i64 r.s, .int .i64 r.v, .int .i64 r.f] 42) ∧ Blk W w.heap.size 42 (rtA r) ∧ Kept w W := ⟨_, rfl, Blk.new _ _ _, (Kept.refl w).alloc _⟩
  go_enter Try.func52, Try.ntmps52
  go_wp2_with fail
  rw [← hW]
  clear hW
  refine (c1 _).mono ?_
  rintro e w1 ⟨rfl, K1⟩
  have KB := KW.trans K1
  clear A1 KW K1
  go_wp2_with fail
  refine (c2 _).mono ?_
  rintro e w' ⟨rfl, rfl⟩
  go_wp2_with fail
  go_ret
  exact ⟨rfl, KB⟩

/-- The box of an estimate; since a first world nothing has turned. -/
structure Bx (w W : World) (q : Nat) (r : Rt) : Prop where
  b : Blk W q 42 (rtA r)
  k : Kept w W
set_option maxRecDepth 100000 in
theorem Bx.on {w W W' : World} {q : Nat} {r : Rt} (h : Bx w W q r) (k : Kept W W') : Bx w W' q r := ⟨h.b.kept k, h.k.trans k⟩
set_option maxRecDepth 100000 in
theorem Bx.new (w : World) (r : Rt) : Bx w (w.alloc (.cells #[.int .i64 r.l, .int .i64 r.m, .int .i64 r.s, .int .i64 r.v, .int .i64 r.f] 42)) w.heap.size r := ⟨Blk.new _ _ _, (Kept.refl w).alloc _⟩
set_option maxRecDepth 100000 in
theorem Bx.cells {w W : World} {q : Nat} {r : Rt} (h : Bx w W q r) : W.cell? ⟨q, 0, none⟩ = some (.int .i64 r.l) ∧ W.cell? ⟨q, 1, none⟩ = some (.int .i64 r.m) ∧ W.cell? ⟨q, 2, none⟩ = some (.int .i64 r.s) ∧ W.cell? ⟨q, 3, none⟩ = some (.int .i64 r.v) ∧ W.cell? ⟨q, 4, none⟩ = some (.int .i64 r.f) :=
  ⟨h.b.cell 0, h.b.cell 1, h.b.cell 2, h.b.cell 3, h.b.cell 4⟩
set_option maxRecDepth 100000 in
theorem greater_one (M : Int) : (if M < 1000000 then 1000000 else M) = max M 1000000 := by omega

set_option maxRecDepth 100000 in
set_option maxHeartbeats 1000000 in
theorem base_low (r : Rt) (sp d : Int) (w : World) (h : chk r = 0) (h0 : 0 ≤ sp) (h1 : sp < 2) : Calls Try.prog 52 #[rtV r, .int .i64 sp, .int .i64 d] w (Gives (.int .i64 (bas r sp d)) w) := by
  have c1 := check_any r
  rw [h] at c1
  have c2 := isSpace_is (n := sp) (b := true) (decide_eq_true ⟨h0, by omega⟩)
  obtain ⟨M, hM⟩ : ∃ M, Sat.mul 4 r.v = M := ⟨_, rfl⟩
  have hs := sum_one h (m := max M 1000000) (by rw [hM])
  have c3 := mul_is hM
  have c4 := add_is hs
  rw [bas_low h h0 h1]
  generalize Sat.num (r.s + max (4 * r.v) 1000000) = N at *
  have hsp : (sp == 2) = false := by simp only [beq_eq_false_iff_ne]; omega
  clear h hs h0 h1 hM
  obtain ⟨W, hW, A1⟩ : ∃ W, W = w.alloc (.cells #[.int .i64 r.l, .int .i64 r.m, .int .i64 r.s, .int .i64 r.v, .int .i64 r.f] 42) ∧ Bx w W w.heap.size r := ⟨_, rfl, Bx.new w r⟩
  go_enter Try.func52, Try.ntmps52
  go_wp2_with fail
  rw [← hW]
  clear hW
  refine (c1 _).mono ?_
  rintro e w1 ⟨rfl, K1⟩
  have B1 := A1.on K1
  clear A1 K1
  go_wp2_with fail
  refine (c2 _).mono ?_
  rintro e w' ⟨rfl, rfl⟩
  have D := Lib.hid (B1.on (Kept.refl w1).drew)
  have p2 := B1.b.cell 2
  have p3 := B1.b.cell 3
  have p2' := D.out.b.cell 2
  have p3' := D.out.b.cell 3
  clear B1
  go_wp2_with fail
  go_region_with (first | (go_at_call 51; (refine (c3 _).mono ?_); rintro e w' ⟨rfl, hk⟩; have D := Lib.hid (D.out.on hk); have q2 := D.out.b.cell 2) | (go_at_call 72; (refine (c4 _).mono ?_); rintro e w' ⟨rfl, hk⟩; have D := Lib.hid (D.out.on hk)))
  all_goals
    go_wp2_with fail
    go_ret
    exact ⟨rfl, D.out.k⟩
end Go.Proofs.Ytdfjceghhjecaaa.Pto
