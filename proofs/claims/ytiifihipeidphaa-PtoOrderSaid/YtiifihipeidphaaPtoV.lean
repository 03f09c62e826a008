/-
  The chapter's examples: contract of the law's works.
-/
import Derived.Test.YtiifihipeidphaaPtoX
import Derived.Test.YtiifihipeidphaaPtoB
import Derived.Test.YtiifihipeidphaaRttZ
import Derived.Deep.RegionWith
namespace Go.Proofs.Ytiifihipeidphaa.Pto
open Go.RowKit RttM Wd Rtt PtoM
set_option linter.unusedVariables false
set_option linter.unusedSimpArgs false

theorem due_is {t d n : Int} (h : ovr t d = n) (w : World) : Calls Try.prog 17 #[.int .i64 t, .int .i64 d] w (Gives (.int .i64 n) w) := by rw [← h]; exact due_any t d w
theorem persist_is {r : Rt} {d n : Int} (h : pers r d = n) (w : World) : Calls Try.prog 12 #[rtV r, .int .i64 d] w (Gives (.int .i64 n) w) := by rw [← h]; exact persist_any r d w

/-- Two boxes of estimates. -/
structure Tx (w W : World) (a b : Nat) (r n : Rt) : Prop where
  a : Blk W a 23 (rtA r)
  b : Blk W b 23 (rtA n)
  k : Kept w W
theorem Tx.on {w W W' : World} {a b : Nat} {r n : Rt} (h : Tx w W a b r n) (k : Kept W W') : Tx w W' a b r n := ⟨h.a.kept k, h.b.kept k, h.k.trans k⟩
theorem Tx.new (w : World) (r n : Rt) : ∃ W, W = (w.alloc (.cells (rtA r) 23)).alloc (.cells (rtA n) 23) ∧ Tx w W w.heap.size (w.heap.size + 1) r n := by
  obtain ⟨W, h, a, b, k⟩ := two w (rtA r) (rtA n) 23 23
  exact ⟨W, h, a, b, k⟩

set_option maxRecDepth 100000 in
set_option maxHeartbeats 2000000 in
theorem works_any (w : World) : Calls Try.prog 14 #[] w (GBool true w) := by
  have c1 := base_is (r := ⟨100, 100, 2000000, 300000, 0⟩) (sp := 0) (d := 5000000) (n := 3200000) (by decide)
  have c2 := base_is (r := ⟨100, 100, 2000000, 300000, 0⟩) (sp := 2) (d := 5000000) (n := 8200000) (by decide)
  have c3 := base_is (r := ⟨0, 0, 333000000, 166500000, -1⟩) (sp := 0) (d := 0) (n := 999000000) (by decide)
  have c4 := base_is (r := ⟨0, 0, 333000000, 166500000, -1⟩) (sp := 3) (d := 0) (n := 0) (by decide)
  have c5 := backed_is (n := 3) (c := 2) (m := 10) (k := 12) (by decide)
  have c6 := backed_is (n := 3) (c := 9) (m := 4) (k := 48) (by decide)
  have c7 := backed_is (n := 1) (c := 60) (m := 60) (k := 9007199254740991) (by decide)
  have c8 := backed_is (n := (-1)) (c := 3) (m := 3) (k := 0) (by decide)
  have c9 := due_is (t := 5) (d := 7) (n := 12) (by decide)
  have c10 := due_is (t := (-1)) (d := 7) (n := -1) (by decide)
  have c11 := due_is (t := 9007199254740991) (d := 1) (n := 9007199254740991) (by decide)
  have c12 := persist_is (r := ⟨100, 100, 2000000, 300000, 0⟩) (d := 5000000) (n := 24600000) (by decide)
  obtain ⟨W, hW, D0⟩ := Tx.new w ⟨100, 100, 2000000, 300000, 0⟩ ⟨0, 0, 333000000, 166500000, -1⟩
  have D := Lib.hid D0
  clear D0
  go_enter Try.func14, Try.ntmps14
  go_wp2_with fail
  change Calls _ _ _ ((w.alloc (.cells (rtA ⟨100, 100, 2000000, 300000, 0⟩) 23)).alloc (.cells (rtA ⟨0, 0, 333000000, 166500000, -1⟩) 23)) _
  rw [← hW]
  clear hW
  refine (c1 _).mono ?_
  rintro e w1 ⟨rfl, hk⟩
  have D := Lib.hid (D.out.on hk)
  clear hk
  have x0 := D.out.a.cell 0
  have x1 := D.out.a.cell 1
  have x2 := D.out.a.cell 2
  have x3 := D.out.a.cell 3
  have x4 := D.out.a.cell 4
  have xl := D.out.a.lt
  go_wp2_with fail
  clear x0 x1 x2 x3 x4 xl
  refine (c2 _).mono ?_
  rintro e w2 ⟨rfl, hk⟩
  have D := Lib.hid (D.out.on hk)
  clear hk
  have x0 := D.out.b.cell 0
  have x1 := D.out.b.cell 1
  have x2 := D.out.b.cell 2
  have x3 := D.out.b.cell 3
  have x4 := D.out.b.cell 4
  have xl := D.out.b.lt
  go_wp2_with fail
  clear x0 x1 x2 x3 x4 xl
  refine (c3 _).mono ?_
  rintro e w3 ⟨rfl, hk⟩
  have D := Lib.hid (D.out.on hk)
  clear hk
  have x0 := D.out.b.cell 0
  have x1 := D.out.b.cell 1
  have x2 := D.out.b.cell 2
  have x3 := D.out.b.cell 3
  have x4 := D.out.b.cell 4
  have xl := D.out.b.lt
  go_wp2_with fail
  clear x0 x1 x2 x3 x4 xl
  refine (c4 _).mono ?_
  rintro e w4 ⟨rfl, hk⟩
  have D := Lib.hid (D.out.on hk)
  clear hk
  go_wp2_with fail
  refine (c5 _).mono ?_
  rintro e w5 ⟨rfl, hk⟩
  have D := Lib.hid (D.out.on hk)
  clear hk
  go_wp2_with fail
  refine (c6 _).mono ?_
  rintro e w6 ⟨rfl, hk⟩
  have D := Lib.hid (D.out.on hk)
  clear hk
  go_wp2_with fail
  refine (c7 _).mono ?_
  rintro e w7 ⟨rfl, hk⟩
  have D := Lib.hid (D.out.on hk)
  clear hk
  go_wp2_with fail
  refine (c8 _).mono ?_
  rintro e w8 ⟨rfl, hk⟩
  have D := Lib.hid (D.out.on hk)
  clear hk
  go_wp2_with fail
  refine (c9 _).mono ?_
  rintro e w9 ⟨rfl, hk⟩
  have D := Lib.hid (D.out.on hk)
  clear hk
  go_wp2_with fail
  refine (c10 _).mono ?_
  rintro e w10 ⟨rfl, hk⟩
  have D := Lib.hid (D.out.on hk)
  clear hk
  go_wp2_with fail
  refine (c11 _).mono ?_
  rintro e w11 ⟨rfl, hk⟩
  have D := Lib.hid (D.out.on hk)
  clear hk
  have x0 := D.out.a.cell 0
  have x1 := D.out.a.cell 1
  have x2 := D.out.a.cell 2
  have x3 := D.out.a.cell 3
  have x4 := D.out.a.cell 4
  have xl := D.out.a.lt
  go_wp2_with fail
  clear x0 x1 x2 x3 x4 xl
  refine (c12 _).mono ?_
  rintro e w12 ⟨rfl, hk⟩
  have D := Lib.hid (D.out.on hk)
  clear hk
  go_wp2_with fail
  go_ret
  exact ⟨rfl, D.out.k⟩

end Go.Proofs.Ytiifihipeidphaa.Pto
