/-
  The law PtoLeast: the base is at least a millisecond more than Smooth; what varies counts four times, a delay in the last space alone.
-/
import Derived.Test.YtiifihipeidphaaPtoV
import Derived.Test.YtiifihipeidphaaPtoR
import Derived.Test.YtiifihipeidphaaPtoU
import Derived.Deep.Cut
import Derived.Deep.CutRange
import Derived.Deep.RegionHeld3
import Derived.Deep.QuietTactic
import Derived.BigQuiet
import Derived.LoopN
namespace Go.Proofs.Ytiifihipeidphaa.Law
open Go.RowKit RttM Wd Rtt PtoM Pto
set_option linter.unusedVariables false
set_option linter.unusedSimpArgs false

/-- The two ways, as numbers. -/
structure Lo (N s v sp : Int) : Prop where
  l0 : ¬ N < min (s + 1000000) 9007199254740991
  l1 : ¬ 9007199254740991 < N
  w0 : IntKind.i64.wrap (s + 1000000) = s + 1000000
set_option maxRecDepth 100000 in
set_option maxHeartbeats 2000000 in
theorem low_max (x0 x1 x2 x3 a b : Int) (r : Rt) (sp d N : Int) (w : World)
    (cm : ∀ W, Calls Try.prog 19 #[.agg #[.int .i64 x0, .int .i64 x1, .int .i64 x2, .int .i64 x3]] W (Gives (rtV r) W))
    (r1 : ∀ W, Calls Try.prog 20 #[.int .i64 a, .int .i64 3] W fun e w' => e = .returned (.int .i64 sp) ∧ W = w')
    (r2 : ∀ W, Calls Try.prog 20 #[.int .i64 b, .int .i64 9007199254740992] W fun e w' => e = .returned (.int .i64 d) ∧ W = w')
    (hN : bas r sp d = N) (hN2 : bas r sp 0 = N) (hsp : sp < 2) (hne : (sp == 2) = false) (h : Lo N r.s r.v sp) (hM : N = 9007199254740991) : Calls Try.prog 5 #[.agg #[.int .i64 x0, .int .i64 x1, .int .i64 x2, .int .i64 x3], .int .i64 a, .int .i64 b] w (GBool true w) := by
  have c1 := base_is hN
  clear hN
  have c2 := base_is hN2
  clear hN2
  obtain ⟨l0, l1, w0⟩ := h
  subst hM
  obtain ⟨W, hW, X, KW⟩ : ∃ W, W = w.alloc (.cells #[.int .i64 x0, .int .i64 x1, .int .i64 x2, .int .i64 x3] 31) ∧ Blk W w.heap.size 31 #[.int .i64 x0, .int .i64 x1, .int .i64 x2, .int .i64 x3] ∧ Kept w W := ⟨_, rfl, Blk.new _ _ _, (Kept.refl w).alloc _⟩
  go_enter Try.func5, Try.ntmps5
  go_wp2_with fail
  rw [← hW]
  clear hW
  refine (works_any _).mono ?_
  rintro e w1 ⟨rfl, K1⟩
  have X1 := X.kept K1
  have K1 := Lib.hid (KW.trans K1)
  clear X KW
  have xl := X1.lt
  have p0 := X1.cell 0
  have p1 := X1.cell 1
  have p2 := X1.cell 2
  have p3 := X1.cell 3
  clear X1
  go_wp2_with fail
  refine (cm _).mono ?_
  rintro e w2 ⟨rfl, K2⟩
  clear p0 p1 p2 p3 xl
  have D : Hid (Bx w (w2.alloc (.cells #[.int .i64 r.l, .int .i64 r.m, .int .i64 r.s, .int .i64 r.v, .int .i64 r.f] 23)) w2.heap.size r) := Lib.hid ⟨Blk.new _ _ _, (K1.out.trans K2).alloc _⟩
  clear K1 K2
  go_wp2_with fail
  generalize w2.alloc (.cells #[.int .i64 r.l, .int .i64 r.m, .int .i64 r.s, .int .i64 r.v, .int .i64 r.f] 23) = V at *
  generalize w2.heap.size = q at *
  refine (r1 _).mono ?_
  rintro e w' ⟨rfl, rfl⟩
  go_wp2_with fail
  refine (r2 _).mono ?_
  rintro e w' ⟨rfl, rfl⟩
  have z0 := D.out.b.cell 0
  have z1 := D.out.b.cell 1
  have z2 := D.out.b.cell 2
  have z3 := D.out.b.cell 3
  have z4 := D.out.b.cell 4
  have zl := D.out.b.lt
  go_wp2_with fail
  clear z0 z1 z2 z3 z4 zl
  refine (c1 _).mono ?_
  rintro e w3 ⟨rfl, hk⟩
  have D := Lib.hid (D.out.on hk)
  clear hk
  have z0 := D.out.b.cell 0
  have z1 := D.out.b.cell 1
  have z2 := D.out.b.cell 2
  have z3 := D.out.b.cell 3
  have z4 := D.out.b.cell 4
  have zl := D.out.b.lt
  go_wp2_with fail
  clear z0 z1 z2 z3 z4 zl
  refine (c2 _).mono ?_
  rintro e w4 ⟨rfl, hk⟩
  have D := Lib.hid (D.out.on hk)
  clear hk
  have z2 := D.out.b.cell 2
  have z3 := D.out.b.cell 3
  go_wp2_with fail
  go_ret
  exact ⟨rfl, D.out.k⟩
set_option maxRecDepth 100000 in
set_option maxHeartbeats 2000000 in
theorem low_one (x0 x1 x2 x3 a b : Int) (r : Rt) (sp d N : Int) (w : World)
    (cm : ∀ W, Calls Try.prog 19 #[.agg #[.int .i64 x0, .int .i64 x1, .int .i64 x2, .int .i64 x3]] W (Gives (rtV r) W))
    (r1 : ∀ W, Calls Try.prog 20 #[.int .i64 a, .int .i64 3] W fun e w' => e = .returned (.int .i64 sp) ∧ W = w')
    (r2 : ∀ W, Calls Try.prog 20 #[.int .i64 b, .int .i64 9007199254740992] W fun e w' => e = .returned (.int .i64 d) ∧ W = w')
    (hN : bas r sp d = N) (hN2 : bas r sp 0 = N) (hsp : sp < 2) (hne : (sp == 2) = false) (h : Lo N r.s r.v sp) (hM : (N == 9007199254740991) = false) (hR : IntKind.i64.wrap (N - r.s) = 1000000) (h4 : IntKind.i64.wrap (4 * r.v) = 4 * r.v) (hv : 4 * r.v ≤ 1000000) : Calls Try.prog 5 #[.agg #[.int .i64 x0, .int .i64 x1, .int .i64 x2, .int .i64 x3], .int .i64 a, .int .i64 b] w (GBool true w) := by
  have c1 := base_is hN
  clear hN
  have c2 := base_is hN2
  clear hN2
  obtain ⟨l0, l1, w0⟩ := h
  obtain ⟨W, hW, X, KW⟩ : ∃ W, W = w.alloc (.cells #[.int .i64 x0, .int .i64 x1, .int .i64 x2, .int .i64 x3] 31) ∧ Blk W w.heap.size 31 #[.int .i64 x0, .int .i64 x1, .int .i64 x2, .int .i64 x3] ∧ Kept w W := ⟨_, rfl, Blk.new _ _ _, (Kept.refl w).alloc _⟩
  go_enter Try.func5, Try.ntmps5
  go_wp2_with fail
  rw [← hW]
  clear hW
  refine (works_any _).mono ?_
  rintro e w1 ⟨rfl, K1⟩
  have X1 := X.kept K1
  have K1 := Lib.hid (KW.trans K1)
  clear X KW
  have xl := X1.lt
  have p0 := X1.cell 0
  have p1 := X1.cell 1
  have p2 := X1.cell 2
  have p3 := X1.cell 3
  clear X1
  go_wp2_with fail
  refine (cm _).mono ?_
  rintro e w2 ⟨rfl, K2⟩
  clear p0 p1 p2 p3 xl
  have D : Hid (Bx w (w2.alloc (.cells #[.int .i64 r.l, .int .i64 r.m, .int .i64 r.s, .int .i64 r.v, .int .i64 r.f] 23)) w2.heap.size r) := Lib.hid ⟨Blk.new _ _ _, (K1.out.trans K2).alloc _⟩
  clear K1 K2
  go_wp2_with fail
  generalize w2.alloc (.cells #[.int .i64 r.l, .int .i64 r.m, .int .i64 r.s, .int .i64 r.v, .int .i64 r.f] 23) = V at *
  generalize w2.heap.size = q at *
  refine (r1 _).mono ?_
  rintro e w' ⟨rfl, rfl⟩
  go_wp2_with fail
  refine (r2 _).mono ?_
  rintro e w' ⟨rfl, rfl⟩
  have z0 := D.out.b.cell 0
  have z1 := D.out.b.cell 1
  have z2 := D.out.b.cell 2
  have z3 := D.out.b.cell 3
  have z4 := D.out.b.cell 4
  have zl := D.out.b.lt
  go_wp2_with fail
  clear z0 z1 z2 z3 z4 zl
  refine (c1 _).mono ?_
  rintro e w3 ⟨rfl, hk⟩
  have D := Lib.hid (D.out.on hk)
  clear hk
  have z0 := D.out.b.cell 0
  have z1 := D.out.b.cell 1
  have z2 := D.out.b.cell 2
  have z3 := D.out.b.cell 3
  have z4 := D.out.b.cell 4
  have zl := D.out.b.lt
  go_wp2_with fail
  clear z0 z1 z2 z3 z4 zl
  refine (c2 _).mono ?_
  rintro e w4 ⟨rfl, hk⟩
  have D := Lib.hid (D.out.on hk)
  clear hk
  have z2 := D.out.b.cell 2
  have z3 := D.out.b.cell 3
  go_wp2_with fail
  go_ret
  exact ⟨rfl, D.out.k⟩
set_option maxRecDepth 100000 in
set_option maxHeartbeats 2000000 in
theorem low_four (x0 x1 x2 x3 a b : Int) (r : Rt) (sp d N : Int) (w : World)
    (cm : ∀ W, Calls Try.prog 19 #[.agg #[.int .i64 x0, .int .i64 x1, .int .i64 x2, .int .i64 x3]] W (Gives (rtV r) W))
    (r1 : ∀ W, Calls Try.prog 20 #[.int .i64 a, .int .i64 3] W fun e w' => e = .returned (.int .i64 sp) ∧ W = w')
    (r2 : ∀ W, Calls Try.prog 20 #[.int .i64 b, .int .i64 9007199254740992] W fun e w' => e = .returned (.int .i64 d) ∧ W = w')
    (hN : bas r sp d = N) (hN2 : bas r sp 0 = N) (hsp : sp < 2) (hne : (sp == 2) = false) (h : Lo N r.s r.v sp) (hM : (N == 9007199254740991) = false) (R : Int) (hR : IntKind.i64.wrap (N - r.s) = R) (h4 : IntKind.i64.wrap (4 * r.v) = R) (hv : (R == 1000000) = false) (hv2 : 1000000 ≤ R) : Calls Try.prog 5 #[.agg #[.int .i64 x0, .int .i64 x1, .int .i64 x2, .int .i64 x3], .int .i64 a, .int .i64 b] w (GBool true w) := by
  have c1 := base_is hN
  clear hN
  have c2 := base_is hN2
  clear hN2
  obtain ⟨l0, l1, w0⟩ := h
  obtain ⟨W, hW, X, KW⟩ : ∃ W, W = w.alloc (.cells #[.int .i64 x0, .int .i64 x1, .int .i64 x2, .int .i64 x3] 31) ∧ Blk W w.heap.size 31 #[.int .i64 x0, .int .i64 x1, .int .i64 x2, .int .i64 x3] ∧ Kept w W := ⟨_, rfl, Blk.new _ _ _, (Kept.refl w).alloc _⟩
  go_enter Try.func5, Try.ntmps5
  go_wp2_with fail
  rw [← hW]
  clear hW
  refine (works_any _).mono ?_
  rintro e w1 ⟨rfl, K1⟩
  have X1 := X.kept K1
  have K1 := Lib.hid (KW.trans K1)
  clear X KW
  have xl := X1.lt
  have p0 := X1.cell 0
  have p1 := X1.cell 1
  have p2 := X1.cell 2
  have p3 := X1.cell 3
  clear X1
  go_wp2_with fail
  refine (cm _).mono ?_
  rintro e w2 ⟨rfl, K2⟩
  clear p0 p1 p2 p3 xl
  have D : Hid (Bx w (w2.alloc (.cells #[.int .i64 r.l, .int .i64 r.m, .int .i64 r.s, .int .i64 r.v, .int .i64 r.f] 23)) w2.heap.size r) := Lib.hid ⟨Blk.new _ _ _, (K1.out.trans K2).alloc _⟩
  clear K1 K2
  go_wp2_with fail
  generalize w2.alloc (.cells #[.int .i64 r.l, .int .i64 r.m, .int .i64 r.s, .int .i64 r.v, .int .i64 r.f] 23) = V at *
  generalize w2.heap.size = q at *
  refine (r1 _).mono ?_
  rintro e w' ⟨rfl, rfl⟩
  go_wp2_with fail
  refine (r2 _).mono ?_
  rintro e w' ⟨rfl, rfl⟩
  have z0 := D.out.b.cell 0
  have z1 := D.out.b.cell 1
  have z2 := D.out.b.cell 2
  have z3 := D.out.b.cell 3
  have z4 := D.out.b.cell 4
  have zl := D.out.b.lt
  go_wp2_with fail
  clear z0 z1 z2 z3 z4 zl
  refine (c1 _).mono ?_
  rintro e w3 ⟨rfl, hk⟩
  have D := Lib.hid (D.out.on hk)
  clear hk
  have z0 := D.out.b.cell 0
  have z1 := D.out.b.cell 1
  have z2 := D.out.b.cell 2
  have z3 := D.out.b.cell 3
  have z4 := D.out.b.cell 4
  have zl := D.out.b.lt
  go_wp2_with fail
  clear z0 z1 z2 z3 z4 zl
  refine (c2 _).mono ?_
  rintro e w4 ⟨rfl, hk⟩
  have D := Lib.hid (D.out.on hk)
  clear hk
  have z2 := D.out.b.cell 2
  have z3 := D.out.b.cell 3
  go_wp2_with fail
  go_ret
  exact ⟨rfl, D.out.k⟩
set_option maxRecDepth 100000 in
set_option maxHeartbeats 2000000 in
theorem app_max (x0 x1 x2 x3 a b : Int) (r : Rt) (sp d N : Int) (w : World)
    (cm : ∀ W, Calls Try.prog 19 #[.agg #[.int .i64 x0, .int .i64 x1, .int .i64 x2, .int .i64 x3]] W (Gives (rtV r) W))
    (r1 : ∀ W, Calls Try.prog 20 #[.int .i64 a, .int .i64 3] W fun e w' => e = .returned (.int .i64 sp) ∧ W = w')
    (r2 : ∀ W, Calls Try.prog 20 #[.int .i64 b, .int .i64 9007199254740992] W fun e w' => e = .returned (.int .i64 d) ∧ W = w')
    (hN : bas r sp d = N) (h : Lo N r.s r.v sp) (hsp : sp = 2) (hM : N = 9007199254740991) : Calls Try.prog 5 #[.agg #[.int .i64 x0, .int .i64 x1, .int .i64 x2, .int .i64 x3], .int .i64 a, .int .i64 b] w (GBool true w) := by
  have c1 := base_is hN
  clear hN
  obtain ⟨l0, l1, w0⟩ := h
  subst hsp
  subst hM
  obtain ⟨W, hW, X, KW⟩ : ∃ W, W = w.alloc (.cells #[.int .i64 x0, .int .i64 x1, .int .i64 x2, .int .i64 x3] 31) ∧ Blk W w.heap.size 31 #[.int .i64 x0, .int .i64 x1, .int .i64 x2, .int .i64 x3] ∧ Kept w W := ⟨_, rfl, Blk.new _ _ _, (Kept.refl w).alloc _⟩
  go_enter Try.func5, Try.ntmps5
  go_wp2_with fail
  rw [← hW]
  clear hW
  refine (works_any _).mono ?_
  rintro e w1 ⟨rfl, K1⟩
  have X1 := X.kept K1
  have K1 := Lib.hid (KW.trans K1)
  clear X KW
  have xl := X1.lt
  have p0 := X1.cell 0
  have p1 := X1.cell 1
  have p2 := X1.cell 2
  have p3 := X1.cell 3
  clear X1
  go_wp2_with fail
  refine (cm _).mono ?_
  rintro e w2 ⟨rfl, K2⟩
  clear p0 p1 p2 p3 xl
  have D : Hid (Bx w (w2.alloc (.cells #[.int .i64 r.l, .int .i64 r.m, .int .i64 r.s, .int .i64 r.v, .int .i64 r.f] 23)) w2.heap.size r) := Lib.hid ⟨Blk.new _ _ _, (K1.out.trans K2).alloc _⟩
  clear K1 K2
  go_wp2_with fail
  generalize w2.alloc (.cells #[.int .i64 r.l, .int .i64 r.m, .int .i64 r.s, .int .i64 r.v, .int .i64 r.f] 23) = V at *
  generalize w2.heap.size = q at *
  refine (r1 _).mono ?_
  rintro e w' ⟨rfl, rfl⟩
  go_wp2_with fail
  refine (r2 _).mono ?_
  rintro e w' ⟨rfl, rfl⟩
  have z0 := D.out.b.cell 0
  have z1 := D.out.b.cell 1
  have z2 := D.out.b.cell 2
  have z3 := D.out.b.cell 3
  have z4 := D.out.b.cell 4
  have zl := D.out.b.lt
  go_wp2_with fail
  clear z0 z1 z2 z3 z4 zl
  refine (c1 _).mono ?_
  rintro e w3 ⟨rfl, hk⟩
  have D := Lib.hid (D.out.on hk)
  clear hk
  have z0 := D.out.b.cell 0
  have z1 := D.out.b.cell 1
  have z2 := D.out.b.cell 2
  have z3 := D.out.b.cell 3
  have z4 := D.out.b.cell 4
  have zl := D.out.b.lt
  go_wp2_with fail
  go_ret
  exact ⟨rfl, D.out.k⟩
set_option maxRecDepth 100000 in
set_option maxHeartbeats 2000000 in
theorem app_one (x0 x1 x2 x3 a b : Int) (r : Rt) (sp d N : Int) (w : World)
    (cm : ∀ W, Calls Try.prog 19 #[.agg #[.int .i64 x0, .int .i64 x1, .int .i64 x2, .int .i64 x3]] W (Gives (rtV r) W))
    (r1 : ∀ W, Calls Try.prog 20 #[.int .i64 a, .int .i64 3] W fun e w' => e = .returned (.int .i64 sp) ∧ W = w')
    (r2 : ∀ W, Calls Try.prog 20 #[.int .i64 b, .int .i64 9007199254740992] W fun e w' => e = .returned (.int .i64 d) ∧ W = w')
    (hN : bas r sp d = N) (h : Lo N r.s r.v sp) (hsp : sp = 2) (hM : (N == 9007199254740991) = false) (T : Int) (hT : IntKind.i64.wrap (N - r.s) = T) (hR : IntKind.i64.wrap (T - d) = 1000000) (h4 : IntKind.i64.wrap (4 * r.v) = 4 * r.v) (hv : 4 * r.v ≤ 1000000) : Calls Try.prog 5 #[.agg #[.int .i64 x0, .int .i64 x1, .int .i64 x2, .int .i64 x3], .int .i64 a, .int .i64 b] w (GBool true w) := by
  have c1 := base_is hN
  clear hN
  obtain ⟨l0, l1, w0⟩ := h
  subst hsp
  obtain ⟨W, hW, X, KW⟩ : ∃ W, W = w.alloc (.cells #[.int .i64 x0, .int .i64 x1, .int .i64 x2, .int .i64 x3] 31) ∧ Blk W w.heap.size 31 #[.int .i64 x0, .int .i64 x1, .int .i64 x2, .int .i64 x3] ∧ Kept w W := ⟨_, rfl, Blk.new _ _ _, (Kept.refl w).alloc _⟩
  go_enter Try.func5, Try.ntmps5
  go_wp2_with fail
  rw [← hW]
  clear hW
  refine (works_any _).mono ?_
  rintro e w1 ⟨rfl, K1⟩
  have X1 := X.kept K1
  have K1 := Lib.hid (KW.trans K1)
  clear X KW
  have xl := X1.lt
  have p0 := X1.cell 0
  have p1 := X1.cell 1
  have p2 := X1.cell 2
  have p3 := X1.cell 3
  clear X1
  go_wp2_with fail
  refine (cm _).mono ?_
  rintro e w2 ⟨rfl, K2⟩
  clear p0 p1 p2 p3 xl
  have D : Hid (Bx w (w2.alloc (.cells #[.int .i64 r.l, .int .i64 r.m, .int .i64 r.s, .int .i64 r.v, .int .i64 r.f] 23)) w2.heap.size r) := Lib.hid ⟨Blk.new _ _ _, (K1.out.trans K2).alloc _⟩
  clear K1 K2
  go_wp2_with fail
  generalize w2.alloc (.cells #[.int .i64 r.l, .int .i64 r.m, .int .i64 r.s, .int .i64 r.v, .int .i64 r.f] 23) = V at *
  generalize w2.heap.size = q at *
  refine (r1 _).mono ?_
  rintro e w' ⟨rfl, rfl⟩
  go_wp2_with fail
  refine (r2 _).mono ?_
  rintro e w' ⟨rfl, rfl⟩
  have z0 := D.out.b.cell 0
  have z1 := D.out.b.cell 1
  have z2 := D.out.b.cell 2
  have z3 := D.out.b.cell 3
  have z4 := D.out.b.cell 4
  have zl := D.out.b.lt
  go_wp2_with fail
  clear z0 z1 z2 z3 z4 zl
  refine (c1 _).mono ?_
  rintro e w3 ⟨rfl, hk⟩
  have D := Lib.hid (D.out.on hk)
  clear hk
  have z0 := D.out.b.cell 0
  have z1 := D.out.b.cell 1
  have z2 := D.out.b.cell 2
  have z3 := D.out.b.cell 3
  have z4 := D.out.b.cell 4
  have zl := D.out.b.lt
  go_wp2_with fail
  go_ret
  exact ⟨rfl, D.out.k⟩
set_option maxRecDepth 100000 in
set_option maxHeartbeats 2000000 in
theorem app_four (x0 x1 x2 x3 a b : Int) (r : Rt) (sp d N : Int) (w : World)
    (cm : ∀ W, Calls Try.prog 19 #[.agg #[.int .i64 x0, .int .i64 x1, .int .i64 x2, .int .i64 x3]] W (Gives (rtV r) W))
    (r1 : ∀ W, Calls Try.prog 20 #[.int .i64 a, .int .i64 3] W fun e w' => e = .returned (.int .i64 sp) ∧ W = w')
    (r2 : ∀ W, Calls Try.prog 20 #[.int .i64 b, .int .i64 9007199254740992] W fun e w' => e = .returned (.int .i64 d) ∧ W = w')
    (hN : bas r sp d = N) (h : Lo N r.s r.v sp) (hsp : sp = 2) (hM : (N == 9007199254740991) = false) (T R : Int) (hT : IntKind.i64.wrap (N - r.s) = T) (hR : IntKind.i64.wrap (T - d) = R) (h4 : IntKind.i64.wrap (4 * r.v) = R) (hv : (R == 1000000) = false) (hv2 : 1000000 ≤ R) : Calls Try.prog 5 #[.agg #[.int .i64 x0, .int .i64 x1, .int .i64 x2, .int .i64 x3], .int .i64 a, .int .i64 b] w (GBool true w) := by
  have c1 := base_is hN
  clear hN
  obtain ⟨l0, l1, w0⟩ := h
  subst hsp
  obtain ⟨W, hW, X, KW⟩ : ∃ W, W = w.alloc (.cells #[.int .i64 x0, .int .i64 x1, .int .i64 x2, .int .i64 x3] 31) ∧ Blk W w.heap.size 31 #[.int .i64 x0, .int .i64 x1, .int .i64 x2, .int .i64 x3] ∧ Kept w W := ⟨_, rfl, Blk.new _ _ _, (Kept.refl w).alloc _⟩
  go_enter Try.func5, Try.ntmps5
  go_wp2_with fail
  rw [← hW]
  clear hW
  refine (works_any _).mono ?_
  rintro e w1 ⟨rfl, K1⟩
  have X1 := X.kept K1
  have K1 := Lib.hid (KW.trans K1)
  clear X KW
  have xl := X1.lt
  have p0 := X1.cell 0
  have p1 := X1.cell 1
  have p2 := X1.cell 2
  have p3 := X1.cell 3
  clear X1
  go_wp2_with fail
  refine (cm _).mono ?_
  rintro e w2 ⟨rfl, K2⟩
  clear p0 p1 p2 p3 xl
  have D : Hid (Bx w (w2.alloc (.cells #[.int .i64 r.l, .int .i64 r.m, .int .i64 r.s, .int .i64 r.v, .int .i64 r.f] 23)) w2.heap.size r) := Lib.hid ⟨Blk.new _ _ _, (K1.out.trans K2).alloc _⟩
  clear K1 K2
  go_wp2_with fail
  generalize w2.alloc (.cells #[.int .i64 r.l, .int .i64 r.m, .int .i64 r.s, .int .i64 r.v, .int .i64 r.f] 23) = V at *
  generalize w2.heap.size = q at *
  refine (r1 _).mono ?_
  rintro e w' ⟨rfl, rfl⟩
  go_wp2_with fail
  refine (r2 _).mono ?_
  rintro e w' ⟨rfl, rfl⟩
  have z0 := D.out.b.cell 0
  have z1 := D.out.b.cell 1
  have z2 := D.out.b.cell 2
  have z3 := D.out.b.cell 3
  have z4 := D.out.b.cell 4
  have zl := D.out.b.lt
  go_wp2_with fail
  clear z0 z1 z2 z3 z4 zl
  refine (c1 _).mono ?_
  rintro e w3 ⟨rfl, hk⟩
  have D := Lib.hid (D.out.on hk)
  clear hk
  have z0 := D.out.b.cell 0
  have z1 := D.out.b.cell 1
  have z2 := D.out.b.cell 2
  have z3 := D.out.b.cell 3
  have z4 := D.out.b.cell 4
  have zl := D.out.b.lt
  go_wp2_with fail
  go_ret
  exact ⟨rfl, D.out.k⟩

theorem ptoLeast_any (x0 x1 x2 x3 a b : Int) (w : World) : Calls Try.prog 5 #[.agg #[.int .i64 x0, .int .i64 x1, .int .i64 x2, .int .i64 x3], .int .i64 a, .int .i64 b] w (GBool true w) := by
  have cm := fun W => measure_any x0 x1 x2 x3 W
  have r1 := fun W => bring_any a 3 W (by omega) (by omega)
  have r2 := fun W => bring_any b 9007199254740992 W (by omega) (by omega)
  have hr := ms_ok x0 x1 x2 x3
  have a0 := Int.emod_nonneg a (show (3 : Int) ≠ 0 by omega)
  have a1 := Int.emod_lt_of_pos a (show (0 : Int) < 3 by omega)
  have b0 := Int.emod_nonneg b (show (9007199254740992 : Int) ≠ 0 by omega)
  have b1 := Int.emod_lt_of_pos b (show (0 : Int) < 9007199254740992 by omega)
  generalize ms x0 x1 x2 x3 = r at *
  generalize a % 3 = sp at *
  generalize b % 9007199254740992 = d at *
  obtain ⟨s0, s1, v0, v1⟩ := ok_bd hr
  have e := bas_in hr ⟨a0, a1⟩ d
  unfold raw at e
  rw [Sat.num_id d b0 (by omega), num_def] at e
  have w0 : IntKind.i64.wrap (r.s + 1000000) = r.s + 1000000 := IntWalk.i64_in _ (by omega)
  have w4 : IntKind.i64.wrap (4 * r.v) = 4 * r.v := IntWalk.i64_in _ (by omega)
  by_cases h2 : sp = 2
  · rw [if_pos h2] at e
    have lo : Lo (bas r sp d) r.s r.v sp := ⟨by omega, by omega, w0⟩
    by_cases hM : bas r sp d = 9007199254740991
    · exact app_max x0 x1 x2 x3 a b r sp d _ w cm r1 r2 rfl lo h2 hM
    · have hM' : (bas r sp d == 9007199254740991) = false := by simpa using hM
      have hT : IntKind.i64.wrap (bas r sp d - r.s) = bas r sp d - r.s := IntWalk.i64_in _ (by omega)
      by_cases hv : 4 * r.v ≤ 1000000
      · exact app_one x0 x1 x2 x3 a b r sp d _ w cm r1 r2 rfl lo h2 hM' _ hT (by rw [IntWalk.i64_in _ (by omega)]; omega) w4 hv
      · exact app_four x0 x1 x2 x3 a b r sp d _ w cm r1 r2 rfl lo h2 hM' _ (4 * r.v) hT (by rw [IntWalk.i64_in _ (by omega)]; omega) w4 (by simp only [beq_eq_false_iff_ne]; omega) (by omega)
  · rw [if_neg h2] at e
    have h2' : (sp == 2) = false := by simpa using h2
    have e0 : bas r sp 0 = bas r sp d := by rw [bas_low hr a0 (by omega), bas_low hr a0 (by omega)]
    have lo : Lo (bas r sp d) r.s r.v sp := ⟨by omega, by omega, w0⟩
    by_cases hM : bas r sp d = 9007199254740991
    · exact low_max x0 x1 x2 x3 a b r sp d _ w cm r1 r2 rfl e0 (by omega) h2' lo hM
    · have hM' : (bas r sp d == 9007199254740991) = false := by simpa using hM
      by_cases hv : 4 * r.v ≤ 1000000
      · exact low_one x0 x1 x2 x3 a b r sp d _ w cm r1 r2 rfl e0 (by omega) h2' lo hM' (by rw [IntWalk.i64_in _ (by omega)]; omega) w4 hv
      · exact low_four x0 x1 x2 x3 a b r sp d _ w cm r1 r2 rfl e0 (by omega) h2' lo hM' (4 * r.v) (by rw [IntWalk.i64_in _ (by omega)]; omega) w4 (by simp only [beq_eq_false_iff_ne]; omega) (by omega)
end Go.Proofs.Ytiifihipeidphaa.Law
