/-
  The chapter's examples: contract of the law's works.
-/
import Derived.Test.YtjmieefbeojkfaaRttS
import Derived.Deep.RegionHeld3
namespace Go.Proofs.Ytjmieefbeojkfaa.Rtt
open Go.RowKit RttM Wd
set_option linter.unusedVariables false
set_option linter.unusedSimpArgs false

theorem new_is {a : Int} {r : Rt} {e : Int} (h1 : newR a = r) (h2 : newE a = e) (w : World) : Calls Try.prog 11 #[.int .i64 a] w (Gives (.tuple #[rtV r, .int .i64 e]) w) := by
  rw [← h1, ← h2]; exact new_any a w
theorem sample_is {r r' : Rt} {x y z e : Int} (h1 : sampR r x y z = r') (h2 : sampE r x y z = e) (w : World) : Calls Try.prog 13 #[rtV r, .int .i64 x, .int .i64 y, .int .i64 z] w (Gives (.tuple #[rtV r', .int .i64 e]) w) := by
  rw [← h1, ← h2]; exact sample_any r x y z w
theorem held_is {d m : Int} {k : Bool} {n : Int} (h : held d m k = n) (w : World) : Calls Try.prog 20 #[.int .i64 d, .int .i64 m, .bool k] w (Same (.int .i64 n) w) := by
  rw [← h]; exact held_any d m k w
theorem eql_self (x : Rt) (w : World) : (binOp .eql 23 (rtV x) (rtV x)).run Try.prog w = .ok (.bool true) w := by rw [eql_rt, decide_eq_true rfl]
set_option maxRecDepth 100000 in
set_option maxHeartbeats 2000000 in
theorem works_any (w : World) : Calls Try.prog 19 #[] w (GBool true w) := by
  have c1 := new_is (a := 333000000) (r := ⟨0, 0, 333000000, 166500000, -1⟩) (e := 0) (by decide) (by decide)
  have c2 := sample_is (r := ⟨0, 0, 333000000, 166500000, -1⟩) (x := 100) (y := 40) (z := 7) (r' := ⟨100, 100, 100, 50, 7⟩) (e := 0) (by decide) (by decide)
  have c3 := sample_is (r := ⟨100, 100, 100, 50, 7⟩) (x := 180) (y := 40) (z := 9) (r' := ⟨180, 100, 105, 47, 7⟩) (e := 0) (by decide) (by decide)
  have c4 := sample_is (r := ⟨180, 100, 105, 47, 7⟩) (x := 120) (y := 40) (z := 11) (r' := ⟨120, 100, 106, 39, 7⟩) (e := 0) (by decide) (by decide)
  have c5 := new_is (a := 999999) (r := zero) (e := 9) (by decide) (by decide)
  have c6 := sample_is (r := ⟨0, 0, 333000000, 166500000, -1⟩) (x := -1) (y := 0) (z := 0) (r' := zero) (e := 9) (by decide) (by decide)
  have hg := guard_rt
  have qa : ∀ w, (binOp .eql 23 (.agg #[.int .i64 0, .int .i64 0, .int .i64 333000000, .int .i64 166500000, .int .i64 (-1)]) (.agg #[.int .i64 0, .int .i64 0, .int .i64 333000000, .int .i64 166500000, .int .i64 (-1)])).run Try.prog w = .ok (.bool true) w := eql_self ⟨0, 0, 333000000, 166500000, -1⟩
  have qb : ∀ w, (binOp .eql 23 (.agg #[.int .i64 100, .int .i64 100, .int .i64 100, .int .i64 50, .int .i64 7]) (.agg #[.int .i64 100, .int .i64 100, .int .i64 100, .int .i64 50, .int .i64 7])).run Try.prog w = .ok (.bool true) w := eql_self ⟨100, 100, 100, 50, 7⟩
  have qc : ∀ w, (binOp .eql 23 (.agg #[.int .i64 180, .int .i64 100, .int .i64 105, .int .i64 47, .int .i64 7]) (.agg #[.int .i64 180, .int .i64 100, .int .i64 105, .int .i64 47, .int .i64 7])).run Try.prog w = .ok (.bool true) w := eql_self ⟨180, 100, 105, 47, 7⟩
  have qd : ∀ w, (binOp .eql 23 (.agg #[.int .i64 120, .int .i64 100, .int .i64 106, .int .i64 39, .int .i64 7]) (.agg #[.int .i64 120, .int .i64 100, .int .i64 106, .int .i64 39, .int .i64 7])).run Try.prog w = .ok (.bool true) w := eql_self ⟨120, 100, 106, 39, 7⟩
  have c7 := held_is (d := 5) (m := 3) (k := true) (n := 3) (by decide)
  have c8 := held_is (d := 5) (m := 3) (k := false) (n := 5) (by decide)
  go_enter Try.func19, Try.ntmps19
  go_wp2_with fail
  refine (c1 _).mono ?_
  rintro e w1 ⟨rfl, K1⟩
  have KW := Lib.hid K1
  clear K1
  go_wp2_with fail
  refine (c2 _).mono ?_
  rintro e w2 ⟨rfl, K2⟩
  have M2 := Lib.hid (((Kept.refl w1).alloc _).trans K2)
  have Xa2 := Lib.hid ((Blk.new w1 23 #[.int .i64 0, .int .i64 0, .int .i64 333000000, .int .i64 166500000, .int .i64 (-1)]).kept K2)
  have KW := Lib.hid (KW.out.trans M2.out)
  clear K2 M2
  go_wp2_with fail
  refine (c3 _).mono ?_
  rintro e w3 ⟨rfl, K3⟩
  have M3 := Lib.hid (((Kept.refl w2).alloc _).trans K3)
  have Xa3 := Lib.hid (Xa2.out.kept M3.out)
  have Xb3 := Lib.hid ((Blk.new w2 23 #[.int .i64 100, .int .i64 100, .int .i64 100, .int .i64 50, .int .i64 7]).kept K3)
  have KW := Lib.hid (KW.out.trans M3.out)
  clear K3 M3
  go_wp2_with fail
  refine (c4 _).mono ?_
  rintro e w4 ⟨rfl, K4⟩
  have M4 := Lib.hid (((Kept.refl w3).alloc _).trans K4)
  have Xa4 := Lib.hid (Xa3.out.kept M4.out)
  have Xb4 := Lib.hid (Xb3.out.kept M4.out)
  have Xc4 := Lib.hid ((Blk.new w3 23 #[.int .i64 180, .int .i64 100, .int .i64 105, .int .i64 47, .int .i64 7]).kept K4)
  have KW := Lib.hid (KW.out.trans M4.out)
  clear K4 M4
  go_wp2_with fail
  refine (c5 _).mono ?_
  rintro e w5 ⟨rfl, K5⟩
  have M5 := Lib.hid (((Kept.refl w4).alloc _).trans K5)
  have Xa5 := Lib.hid (Xa4.out.kept M5.out)
  have Xb5 := Lib.hid (Xb4.out.kept M5.out)
  have Xc5 := Lib.hid (Xc4.out.kept M5.out)
  have Xd5 := Lib.hid ((Blk.new w4 23 #[.int .i64 120, .int .i64 100, .int .i64 106, .int .i64 39, .int .i64 7]).kept K5)
  have KW := Lib.hid (KW.out.trans M5.out)
  clear K5 M5
  have y0 := Xa5.out.cell 0
  have y1 := Xa5.out.cell 1
  have y2 := Xa5.out.cell 2
  have y3 := Xa5.out.cell 3
  have y4 := Xa5.out.cell 4
  have ya := Xa5.out.lt
  go_wp2_with fail
  refine (c6 _).mono ?_
  rintro e w6 ⟨rfl, K6⟩
  have M6 := Lib.hid (((Kept.refl w5).alloc _).trans K6)
  have Xa6 := Lib.hid (Xa5.out.kept M6.out)
  have Xb6 := Lib.hid (Xb5.out.kept M6.out)
  have Xc6 := Lib.hid (Xc5.out.kept M6.out)
  have Xd6 := Lib.hid (Xd5.out.kept M6.out)
  have Xe6 := Lib.hid ((Blk.new w5 23 #[.int .i64 0, .int .i64 0, .int .i64 0, .int .i64 0, .int .i64 0]).kept K6)
  have KW := Lib.hid (KW.out.trans M6.out)
  clear K6 M6
  clear y0 y1 y2 y3 y4 ya
  have ya0 := Xa6.out.cell 0
  have ya1 := Xa6.out.cell 1
  have ya2 := Xa6.out.cell 2
  have ya3 := Xa6.out.cell 3
  have ya4 := Xa6.out.cell 4
  have ya := Xa6.out.lt
  have yb0 := Xb6.out.cell 0
  have yb1 := Xb6.out.cell 1
  have yb2 := Xb6.out.cell 2
  have yb3 := Xb6.out.cell 3
  have yb4 := Xb6.out.cell 4
  have yb := Xb6.out.lt
  have yc0 := Xc6.out.cell 0
  have yc1 := Xc6.out.cell 1
  have yc2 := Xc6.out.cell 2
  have yc3 := Xc6.out.cell 3
  have yc4 := Xc6.out.cell 4
  have yc := Xc6.out.lt
  have yd0 := Xd6.out.cell 0
  have yd1 := Xd6.out.cell 1
  have yd2 := Xd6.out.cell 2
  have yd3 := Xd6.out.cell 3
  have yd4 := Xd6.out.cell 4
  have yd := Xd6.out.lt
  go_wp2_with fail
  refine (c7 _).mono ?_
  rintro e w7 ⟨rfl, rfl⟩
  go_wp2_with fail
  refine (c8 _).mono ?_
  rintro e w7 ⟨rfl, rfl⟩
  go_wp2_with fail
  go_ret
  exact ⟨rfl, KW.out.alloc _⟩
end Go.Proofs.Ytjmieefbeojkfaa.Rtt
