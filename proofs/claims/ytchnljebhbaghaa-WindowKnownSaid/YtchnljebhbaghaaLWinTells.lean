/-
  The law WindowTells: New, Check, Slow, Acked, Bad and Collapse answer as the document does.
-/
import Derived.Test.YtchnljebhbaghaaWinB
import Derived.Deep.DeepCutAuto
namespace Go.Proofs.Ytchnljebhbaghaa.Law
open Go.RowKit WinM Wd Win
set_option linter.unusedVariables false
set_option linter.unusedSimpArgs false

/-- Five boxes of windows; since a first world nothing has turned. -/
structure Tb (w : World) (a b1 b2 b3 b4 : Nat) (R E F : Wn) (W : World) : Prop where
  a : Blk W a 23 (wnA R)
  b1 : Blk W b1 23 (wnA E)
  b2 : Blk W b2 23 (wnA E)
  b3 : Blk W b3 23 (wnA F)
  b4 : Blk W b4 23 (wnA F)
  k : Kept w W
theorem Tb.on {w W W' : World} {a b1 b2 b3 b4 : Nat} {R E F : Wn} (h : Tb w a b1 b2 b3 b4 R E F W) (k : Kept W W') : Tb w a b1 b2 b3 b4 R E F W' := ⟨h.a.kept k, h.b1.kept k, h.b2.kept k, h.b3.kept k, h.b4.kept k, h.k.trans k⟩
theorem Tb.cells {w W : World} {a b1 b2 b3 b4 : Nat} {R E F : Wn} (h : Tb w a b1 b2 b3 b4 R E F W) : W.cell? ⟨a, 0, none⟩ = some (.int .i64 R.d) ∧ W.cell? ⟨a, 1, none⟩ = some (.int .i64 R.m) ∧ W.cell? ⟨a, 2, none⟩ = some (.int .i64 R.c) ∧ W.cell? ⟨a, 3, none⟩ = some (.int .i64 R.t) ∧ W.cell? ⟨a, 4, none⟩ = some (.int .i64 R.s) ∧ W.cell? ⟨a, 5, none⟩ = some (.int .i64 R.g) ∧ W.cell? ⟨b1, 0, none⟩ = some (.int .i64 E.d) ∧ W.cell? ⟨b1, 1, none⟩ = some (.int .i64 E.m) ∧ W.cell? ⟨b1, 2, none⟩ = some (.int .i64 E.c) ∧ W.cell? ⟨b1, 3, none⟩ = some (.int .i64 E.t) ∧ W.cell? ⟨b1, 4, none⟩ = some (.int .i64 E.s) ∧ W.cell? ⟨b1, 5, none⟩ = some (.int .i64 E.g) ∧ W.cell? ⟨b2, 0, none⟩ = some (.int .i64 E.d) ∧ W.cell? ⟨b2, 1, none⟩ = some (.int .i64 E.m) ∧ W.cell? ⟨b2, 2, none⟩ = some (.int .i64 E.c) ∧ W.cell? ⟨b2, 3, none⟩ = some (.int .i64 E.t) ∧ W.cell? ⟨b2, 4, none⟩ = some (.int .i64 E.s) ∧ W.cell? ⟨b2, 5, none⟩ = some (.int .i64 E.g) ∧ W.cell? ⟨b3, 0, none⟩ = some (.int .i64 F.d) ∧ W.cell? ⟨b3, 1, none⟩ = some (.int .i64 F.m) ∧ W.cell? ⟨b3, 2, none⟩ = some (.int .i64 F.c) ∧ W.cell? ⟨b3, 3, none⟩ = some (.int .i64 F.t) ∧ W.cell? ⟨b3, 4, none⟩ = some (.int .i64 F.s) ∧ W.cell? ⟨b3, 5, none⟩ = some (.int .i64 F.g) ∧ W.cell? ⟨b4, 0, none⟩ = some (.int .i64 F.d) ∧ W.cell? ⟨b4, 1, none⟩ = some (.int .i64 F.m) ∧ W.cell? ⟨b4, 2, none⟩ = some (.int .i64 F.c) ∧ W.cell? ⟨b4, 3, none⟩ = some (.int .i64 F.t) ∧ W.cell? ⟨b4, 4, none⟩ = some (.int .i64 F.s) ∧ W.cell? ⟨b4, 5, none⟩ = some (.int .i64 F.g) :=
  ⟨h.a.cell 0, h.a.cell 1, h.a.cell 2, h.a.cell 3, h.a.cell 4, h.a.cell 5, h.b1.cell 0, h.b1.cell 1, h.b1.cell 2, h.b1.cell 3, h.b1.cell 4, h.b1.cell 5, h.b2.cell 0, h.b2.cell 1, h.b2.cell 2, h.b2.cell 3, h.b2.cell 4, h.b2.cell 5, h.b3.cell 0, h.b3.cell 1, h.b3.cell 2, h.b3.cell 3, h.b3.cell 4, h.b3.cell 5, h.b4.cell 0, h.b4.cell 1, h.b4.cell 2, h.b4.cell 3, h.b4.cell 4, h.b4.cell 5⟩

set_option maxRecDepth 100000 in
set_option maxHeartbeats 4000000 in
theorem tells_any (R : Wn) (q : Pk) (x y z : Int) (w : World) : Calls Try.prog 3 #[wnV R, pkV q, .agg #[.int .i64 x, .int .i64 y, .int .i64 z]] w fun e w' => e = .returned (.bool true) ∧ Kept w w' := by
  obtain ⟨fl, hfl⟩ : ∃ fl, (z % 2 == 1) = fl := ⟨_, rfl⟩
  have k0 := Lib.hid (fun W => bring_any z 2 W (by decide) (by decide))
  have k1 := Lib.hid (fun W => acked_any R q fl W)
  have k2 := Lib.hid (fun W => racked_any R q fl W)
  have k3 := Lib.hid (fun W => bad_any R x y W)
  have k4 := Lib.hid (fun W => rbad_any R x y W)
  have k5 := Lib.hid (fun W => collapse_any R W)
  have k6 := Lib.hid (fun W => rcollapse_any R W)
  have k7 := Lib.hid (fun W => new_any x y z W)
  have k8 := Lib.hid (fun W => rnew_any x y z W)
  have k9 := Lib.hid (fun W => check_any R W)
  have k10 := Lib.hid (fun W => rcheck_any R W)
  have k11 := Lib.hid (fun W => slow_any R W)
  have k12 := Lib.hid (fun W => rslow_any R W)
  obtain ⟨A, hA⟩ : ∃ A, ackW R q.t q.z fl = A := ⟨_, rfl⟩
  obtain ⟨eA, hE⟩ : ∃ A, ackE R q.t q.z = A := ⟨_, rfl⟩
  rw [hA, hE] at k1 k2
  clear hA hE
  obtain ⟨C, hC⟩ : ∃ A, badW R x y = A := ⟨_, rfl⟩
  obtain ⟨eC, hE⟩ : ∃ A, badE R x y = A := ⟨_, rfl⟩
  rw [hC, hE] at k3 k4
  clear hC hE
  obtain ⟨E, hE⟩ : ∃ A, colW R = A := ⟨_, rfl⟩
  obtain ⟨cR, hR⟩ : ∃ A, chk R = A := ⟨_, rfl⟩
  rw [hE, hR] at k5 k6
  rw [hR] at k9 k10
  clear hE hR
  obtain ⟨F, hF⟩ : ∃ A, newW x y z = A := ⟨_, rfl⟩
  obtain ⟨eF, hE⟩ : ∃ A, newE x y z = A := ⟨_, rfl⟩
  rw [hF, hE] at k7 k8
  clear hF hE
  obtain ⟨sl, hS⟩ : ∃ A, slowB R = A := ⟨_, rfl⟩
  rw [hS] at k11 k12
  clear hS
  have hg := guard_wn
  have n1 : ∀ w, (binOp .neq 23 (wnV A) (wnV A)).run Try.prog w = .ok (.bool false) w := fun w => by rw [neq_wn]; simp
  have n2 : ∀ w, (binOp .neq 23 (wnV C) (wnV C)).run Try.prog w = .ok (.bool false) w := fun w => by rw [neq_wn]; simp
  have n3 : ∀ w, (binOp .eql 23 (wnV E) (wnV E)).run Try.prog w = .ok (.bool true) w := fun w => by rw [eql_wn]; simp
  have n4 : ∀ w, (binOp .eql 23 (wnV F) (wnV F)).run Try.prog w = .ok (.bool true) w := fun w => by rw [eql_wn]; simp
  obtain ⟨w1, hW, HR0, HP0, HX0, K0⟩ : ∃ W, W = (((w.alloc (.cells #[.int .i64 R.d, .int .i64 R.m, .int .i64 R.c, .int .i64 R.t, .int .i64 R.s, .int .i64 R.g] 23)).alloc (.cells #[.int .i64 q.n, .int .i64 q.t, .int .i64 q.z, .bool q.e, .bool q.f, .bool q.k] 25)).alloc (.cells #[.int .i64 x, .int .i64 y, .int .i64 z] 26)) ∧ Blk W w.heap.size 23 (wnA R) ∧ Blk W (w.heap.size + 1) 25 #[.int .i64 q.n, .int .i64 q.t, .int .i64 q.z, .bool q.e, .bool q.f, .bool q.k] ∧ Blk W (w.heap.size + 1 + 1) 26 #[.int .i64 x, .int .i64 y, .int .i64 z] ∧ Kept w W := by
    refine ⟨_, rfl, (Blk.new _ _ _).kept (((Kept.refl _).alloc _).alloc _), ?_, ?_, (((Kept.refl w).alloc _).alloc _).alloc _⟩
    · have h := Blk.new (w.alloc (.cells #[.int .i64 R.d, .int .i64 R.m, .int .i64 R.c, .int .i64 R.t, .int .i64 R.s, .int .i64 R.g] 23)) 25 #[.int .i64 q.n, .int .i64 q.t, .int .i64 q.z, .bool q.e, .bool q.f, .bool q.k]
      rw [World.size_alloc] at h
      exact h.kept ((Kept.refl _).alloc _)
    · have h := Blk.new ((w.alloc (.cells #[.int .i64 R.d, .int .i64 R.m, .int .i64 R.c, .int .i64 R.t, .int .i64 R.s, .int .i64 R.g] 23)).alloc (.cells #[.int .i64 q.n, .int .i64 q.t, .int .i64 q.z, .bool q.e, .bool q.f, .bool q.k] 25)) 26 #[.int .i64 x, .int .i64 y, .int .i64 z]
      rwa [World.size_alloc, World.size_alloc] at h
  have Ha := Lib.hid HR0
  have Hp := Lib.hid HP0
  have Hx := Lib.hid HX0
  have K := Lib.hid K0
  clear HR0 HP0 HX0 K0
  have ca0 := Ha.out.cell 0
  have ca1 := Ha.out.cell 1
  have ca2 := Ha.out.cell 2
  have ca3 := Ha.out.cell 3
  have ca4 := Ha.out.cell 4
  have ca5 := Ha.out.cell 5
  have ta := Ha.out.lt
  have cp0 := Hp.out.cell 0
  have cp1 := Hp.out.cell 1
  have cp2 := Hp.out.cell 2
  have cp3 := Hp.out.cell 3
  have cp4 := Hp.out.cell 4
  have cp5 := Hp.out.cell 5
  have tp := Hp.out.lt
  have cx0 := Hx.out.cell 0
  have cx1 := Hx.out.cell 1
  have cx2 := Hx.out.cell 2
  have tx := Hx.out.lt
  go_enter Try.func3, Try.ntmps3
  go_wp2_with fail
  rw [← hW]
  clear hW
  refine (k0.out _).mono ?_
  rintro e w' ⟨rfl, rfl⟩
  clear ca0 ca1 ca2 ca3 ca4 ca5 ta
  clear cp0 cp1 cp2 cp3 cp4 cp5 tp
  clear cx0 cx1 cx2 tx
  have ca0 := Ha.out.cell 0
  have ca1 := Ha.out.cell 1
  have ca2 := Ha.out.cell 2
  have ca3 := Ha.out.cell 3
  have ca4 := Ha.out.cell 4
  have ca5 := Ha.out.cell 5
  have ta := Ha.out.lt
  have cp0 := Hp.out.cell 0
  have cp1 := Hp.out.cell 1
  have cp2 := Hp.out.cell 2
  have cp3 := Hp.out.cell 3
  have cp4 := Hp.out.cell 4
  have cp5 := Hp.out.cell 5
  have tp := Hp.out.lt
  go_wp2_with fail
  clear ca0 ca1 ca2 ca3 ca4 ca5 ta
  clear cp0 cp1 cp2 cp3 cp4 cp5 tp
  refine (k1.out _).mono ?_
  rintro e w2 ⟨rfl, hk⟩
  have Ha : Hid (Blk w2 w.heap.size 23 (wnA R)) := Lib.hid (Ha.out.kept hk)
  have Hp : Hid (Blk w2 (w.heap.size + 1) 25 #[.int .i64 q.n, .int .i64 q.t, .int .i64 q.z, .bool q.e, .bool q.f, .bool q.k]) := Lib.hid (Hp.out.kept hk)
  have Hx : Hid (Blk w2 (w.heap.size + 1 + 1) 26 #[.int .i64 x, .int .i64 y, .int .i64 z]) := Lib.hid (Hx.out.kept hk)
  have K : Hid (Kept w w2) := Lib.hid (K.out.trans hk)
  clear hk
  have ca0 := Ha.out.cell 0
  have ca1 := Ha.out.cell 1
  have ca2 := Ha.out.cell 2
  have ca3 := Ha.out.cell 3
  have ca4 := Ha.out.cell 4
  have ca5 := Ha.out.cell 5
  have ta := Ha.out.lt
  have cp0 := Hp.out.cell 0
  have cp1 := Hp.out.cell 1
  have cp2 := Hp.out.cell 2
  have cp3 := Hp.out.cell 3
  have cp4 := Hp.out.cell 4
  have cp5 := Hp.out.cell 5
  have tp := Hp.out.lt
  go_wp2_with fail
  clear ca0 ca1 ca2 ca3 ca4 ca5 ta
  clear cp0 cp1 cp2 cp3 cp4 cp5 tp
  have La : w.heap.size < w2.heap.size := Ha.out.lt
  have Lp : (w.heap.size + 1) < w2.heap.size := Hp.out.lt
  have Lx : (w.heap.size + 1 + 1) < w2.heap.size := Hx.out.lt
  have naA : w.heap.size ≠ w2.heap.size := Nat.ne_of_lt La
  have nAa : w2.heap.size ≠ w.heap.size := Ne.symm naA
  clear La
  have npA : (w.heap.size + 1) ≠ w2.heap.size := Nat.ne_of_lt Lp
  have nAp : w2.heap.size ≠ (w.heap.size + 1) := Ne.symm npA
  clear Lp
  have nxA : (w.heap.size + 1 + 1) ≠ w2.heap.size := Nat.ne_of_lt Lx
  have nAx : w2.heap.size ≠ (w.heap.size + 1 + 1) := Ne.symm nxA
  clear Lx
  have Ha : Hid (Blk (w2.alloc (.cells #[.int .i64 A.d, .int .i64 A.m, .int .i64 A.c, .int .i64 A.t, .int .i64 A.s, .int .i64 A.g] 23)) w.heap.size 23 (wnA R)) := Lib.hid (Ha.out.kept ((Kept.refl _).alloc _))
  have Hp : Hid (Blk (w2.alloc (.cells #[.int .i64 A.d, .int .i64 A.m, .int .i64 A.c, .int .i64 A.t, .int .i64 A.s, .int .i64 A.g] 23)) (w.heap.size + 1) 25 #[.int .i64 q.n, .int .i64 q.t, .int .i64 q.z, .bool q.e, .bool q.f, .bool q.k]) := Lib.hid (Hp.out.kept ((Kept.refl _).alloc _))
  have Hx : Hid (Blk (w2.alloc (.cells #[.int .i64 A.d, .int .i64 A.m, .int .i64 A.c, .int .i64 A.t, .int .i64 A.s, .int .i64 A.g] 23)) (w.heap.size + 1 + 1) 26 #[.int .i64 x, .int .i64 y, .int .i64 z]) := Lib.hid (Hx.out.kept ((Kept.refl _).alloc _))
  have HA : Hid (Blk (w2.alloc (.cells #[.int .i64 A.d, .int .i64 A.m, .int .i64 A.c, .int .i64 A.t, .int .i64 A.s, .int .i64 A.g] 23)) w2.heap.size 23 (wnA A)) := Lib.hid (Blk.new _ _ _)
  have zA : w.heap.size ≤ w2.heap.size := K.out.size
  have K : Hid (Kept w (w2.alloc (.cells #[.int .i64 A.d, .int .i64 A.m, .int .i64 A.c, .int .i64 A.t, .int .i64 A.s, .int .i64 A.g] 23))) := Lib.hid (K.out.alloc _)
  refine (k2.out _).mono ?_
  rintro e w3 ⟨rfl, hk⟩
  have Ha : Hid (Blk w3 w.heap.size 23 (wnA R)) := Lib.hid (Ha.out.kept hk)
  have Hp : Hid (Blk w3 (w.heap.size + 1) 25 #[.int .i64 q.n, .int .i64 q.t, .int .i64 q.z, .bool q.e, .bool q.f, .bool q.k]) := Lib.hid (Hp.out.kept hk)
  have Hx : Hid (Blk w3 (w.heap.size + 1 + 1) 26 #[.int .i64 x, .int .i64 y, .int .i64 z]) := Lib.hid (Hx.out.kept hk)
  have HA : Hid (Blk w3 w2.heap.size 23 (wnA A)) := Lib.hid (HA.out.kept hk)
  have K : Hid (Kept w w3) := Lib.hid (K.out.trans hk)
  clear hk
  have ca0 := Ha.out.cell 0
  have ca1 := Ha.out.cell 1
  have ca2 := Ha.out.cell 2
  have ca3 := Ha.out.cell 3
  have ca4 := Ha.out.cell 4
  have ca5 := Ha.out.cell 5
  have ta := Ha.out.lt
  have cx0 := Hx.out.cell 0
  have cx1 := Hx.out.cell 1
  have cx2 := Hx.out.cell 2
  have tx := Hx.out.lt
  go_wp2_with fail
  clear ca0 ca1 ca2 ca3 ca4 ca5 ta
  clear cx0 cx1 cx2 tx
  have La : w.heap.size < w3.heap.size := Ha.out.lt
  have Lp : (w.heap.size + 1) < w3.heap.size := Hp.out.lt
  have Lx : (w.heap.size + 1 + 1) < w3.heap.size := Hx.out.lt
  have LA : w2.heap.size < w3.heap.size := HA.out.lt
  have naB : w.heap.size ≠ w3.heap.size := Nat.ne_of_lt La
  have nBa : w3.heap.size ≠ w.heap.size := Ne.symm naB
  clear La
  have npB : (w.heap.size + 1) ≠ w3.heap.size := Nat.ne_of_lt Lp
  have nBp : w3.heap.size ≠ (w.heap.size + 1) := Ne.symm npB
  clear Lp
  have nxB : (w.heap.size + 1 + 1) ≠ w3.heap.size := Nat.ne_of_lt Lx
  have nBx : w3.heap.size ≠ (w.heap.size + 1 + 1) := Ne.symm nxB
  clear Lx
  have nAB : w2.heap.size ≠ w3.heap.size := Nat.ne_of_lt LA
  have nBA : w3.heap.size ≠ w2.heap.size := Ne.symm nAB
  clear LA
  have Ha : Hid (Blk (w3.alloc (.cells #[.int .i64 A.d, .int .i64 A.m, .int .i64 A.c, .int .i64 A.t, .int .i64 A.s, .int .i64 A.g] 23)) w.heap.size 23 (wnA R)) := Lib.hid (Ha.out.kept ((Kept.refl _).alloc _))
  have Hp : Hid (Blk (w3.alloc (.cells #[.int .i64 A.d, .int .i64 A.m, .int .i64 A.c, .int .i64 A.t, .int .i64 A.s, .int .i64 A.g] 23)) (w.heap.size + 1) 25 #[.int .i64 q.n, .int .i64 q.t, .int .i64 q.z, .bool q.e, .bool q.f, .bool q.k]) := Lib.hid (Hp.out.kept ((Kept.refl _).alloc _))
  have Hx : Hid (Blk (w3.alloc (.cells #[.int .i64 A.d, .int .i64 A.m, .int .i64 A.c, .int .i64 A.t, .int .i64 A.s, .int .i64 A.g] 23)) (w.heap.size + 1 + 1) 26 #[.int .i64 x, .int .i64 y, .int .i64 z]) := Lib.hid (Hx.out.kept ((Kept.refl _).alloc _))
  have HA : Hid (Blk (w3.alloc (.cells #[.int .i64 A.d, .int .i64 A.m, .int .i64 A.c, .int .i64 A.t, .int .i64 A.s, .int .i64 A.g] 23)) w2.heap.size 23 (wnA A)) := Lib.hid (HA.out.kept ((Kept.refl _).alloc _))
  have HB : Hid (Blk (w3.alloc (.cells #[.int .i64 A.d, .int .i64 A.m, .int .i64 A.c, .int .i64 A.t, .int .i64 A.s, .int .i64 A.g] 23)) w3.heap.size 23 (wnA A)) := Lib.hid (Blk.new _ _ _)
  have zB : w.heap.size ≤ w3.heap.size := K.out.size
  have K : Hid (Kept w (w3.alloc (.cells #[.int .i64 A.d, .int .i64 A.m, .int .i64 A.c, .int .i64 A.t, .int .i64 A.s, .int .i64 A.g] 23))) := Lib.hid (K.out.alloc _)
  refine (k3.out _).mono ?_
  rintro e w4 ⟨rfl, hk⟩
  have Ha : Hid (Blk w4 w.heap.size 23 (wnA R)) := Lib.hid (Ha.out.kept hk)
  have Hp : Hid (Blk w4 (w.heap.size + 1) 25 #[.int .i64 q.n, .int .i64 q.t, .int .i64 q.z, .bool q.e, .bool q.f, .bool q.k]) := Lib.hid (Hp.out.kept hk)
  have Hx : Hid (Blk w4 (w.heap.size + 1 + 1) 26 #[.int .i64 x, .int .i64 y, .int .i64 z]) := Lib.hid (Hx.out.kept hk)
  have HA : Hid (Blk w4 w2.heap.size 23 (wnA A)) := Lib.hid (HA.out.kept hk)
  have HB : Hid (Blk w4 w3.heap.size 23 (wnA A)) := Lib.hid (HB.out.kept hk)
  have K : Hid (Kept w w4) := Lib.hid (K.out.trans hk)
  clear hk
  have ca0 := Ha.out.cell 0
  have ca1 := Ha.out.cell 1
  have ca2 := Ha.out.cell 2
  have ca3 := Ha.out.cell 3
  have ca4 := Ha.out.cell 4
  have ca5 := Ha.out.cell 5
  have ta := Ha.out.lt
  have cx0 := Hx.out.cell 0
  have cx1 := Hx.out.cell 1
  have cx2 := Hx.out.cell 2
  have tx := Hx.out.lt
  go_wp2_with fail
  clear ca0 ca1 ca2 ca3 ca4 ca5 ta
  clear cx0 cx1 cx2 tx
  have La : w.heap.size < w4.heap.size := Ha.out.lt
  have Lp : (w.heap.size + 1) < w4.heap.size := Hp.out.lt
  have Lx : (w.heap.size + 1 + 1) < w4.heap.size := Hx.out.lt
  have LA : w2.heap.size < w4.heap.size := HA.out.lt
  have LB : w3.heap.size < w4.heap.size := HB.out.lt
  have naC : w.heap.size ≠ w4.heap.size := Nat.ne_of_lt La
  have nCa : w4.heap.size ≠ w.heap.size := Ne.symm naC
  clear La
  have npC : (w.heap.size + 1) ≠ w4.heap.size := Nat.ne_of_lt Lp
  have nCp : w4.heap.size ≠ (w.heap.size + 1) := Ne.symm npC
  clear Lp
  have nxC : (w.heap.size + 1 + 1) ≠ w4.heap.size := Nat.ne_of_lt Lx
  have nCx : w4.heap.size ≠ (w.heap.size + 1 + 1) := Ne.symm nxC
  clear Lx
  have nAC : w2.heap.size ≠ w4.heap.size := Nat.ne_of_lt LA
  have nCA : w4.heap.size ≠ w2.heap.size := Ne.symm nAC
  clear LA
  have nBC : w3.heap.size ≠ w4.heap.size := Nat.ne_of_lt LB
  have nCB : w4.heap.size ≠ w3.heap.size := Ne.symm nBC
  clear LB
  have Ha : Hid (Blk (w4.alloc (.cells #[.int .i64 C.d, .int .i64 C.m, .int .i64 C.c, .int .i64 C.t, .int .i64 C.s, .int .i64 C.g] 23)) w.heap.size 23 (wnA R)) := Lib.hid (Ha.out.kept ((Kept.refl _).alloc _))
  have Hp : Hid (Blk (w4.alloc (.cells #[.int .i64 C.d, .int .i64 C.m, .int .i64 C.c, .int .i64 C.t, .int .i64 C.s, .int .i64 C.g] 23)) (w.heap.size + 1) 25 #[.int .i64 q.n, .int .i64 q.t, .int .i64 q.z, .bool q.e, .bool q.f, .bool q.k]) := Lib.hid (Hp.out.kept ((Kept.refl _).alloc _))
  have Hx : Hid (Blk (w4.alloc (.cells #[.int .i64 C.d, .int .i64 C.m, .int .i64 C.c, .int .i64 C.t, .int .i64 C.s, .int .i64 C.g] 23)) (w.heap.size + 1 + 1) 26 #[.int .i64 x, .int .i64 y, .int .i64 z]) := Lib.hid (Hx.out.kept ((Kept.refl _).alloc _))
  have HA : Hid (Blk (w4.alloc (.cells #[.int .i64 C.d, .int .i64 C.m, .int .i64 C.c, .int .i64 C.t, .int .i64 C.s, .int .i64 C.g] 23)) w2.heap.size 23 (wnA A)) := Lib.hid (HA.out.kept ((Kept.refl _).alloc _))
  have HB : Hid (Blk (w4.alloc (.cells #[.int .i64 C.d, .int .i64 C.m, .int .i64 C.c, .int .i64 C.t, .int .i64 C.s, .int .i64 C.g] 23)) w3.heap.size 23 (wnA A)) := Lib.hid (HB.out.kept ((Kept.refl _).alloc _))
  have HC : Hid (Blk (w4.alloc (.cells #[.int .i64 C.d, .int .i64 C.m, .int .i64 C.c, .int .i64 C.t, .int .i64 C.s, .int .i64 C.g] 23)) w4.heap.size 23 (wnA C)) := Lib.hid (Blk.new _ _ _)
  have zC : w.heap.size ≤ w4.heap.size := K.out.size
  have K : Hid (Kept w (w4.alloc (.cells #[.int .i64 C.d, .int .i64 C.m, .int .i64 C.c, .int .i64 C.t, .int .i64 C.s, .int .i64 C.g] 23))) := Lib.hid (K.out.alloc _)
  refine (k4.out _).mono ?_
  rintro e w5 ⟨rfl, hk⟩
  have Ha : Hid (Blk w5 w.heap.size 23 (wnA R)) := Lib.hid (Ha.out.kept hk)
  have Hp : Hid (Blk w5 (w.heap.size + 1) 25 #[.int .i64 q.n, .int .i64 q.t, .int .i64 q.z, .bool q.e, .bool q.f, .bool q.k]) := Lib.hid (Hp.out.kept hk)
  have Hx : Hid (Blk w5 (w.heap.size + 1 + 1) 26 #[.int .i64 x, .int .i64 y, .int .i64 z]) := Lib.hid (Hx.out.kept hk)
  have HA : Hid (Blk w5 w2.heap.size 23 (wnA A)) := Lib.hid (HA.out.kept hk)
  have HB : Hid (Blk w5 w3.heap.size 23 (wnA A)) := Lib.hid (HB.out.kept hk)
  have HC : Hid (Blk w5 w4.heap.size 23 (wnA C)) := Lib.hid (HC.out.kept hk)
  have K : Hid (Kept w w5) := Lib.hid (K.out.trans hk)
  clear hk
  have cA0 := HA.out.cell 0
  have cA1 := HA.out.cell 1
  have cA2 := HA.out.cell 2
  have cA3 := HA.out.cell 3
  have cA4 := HA.out.cell 4
  have cA5 := HA.out.cell 5
  have tA := HA.out.lt
  have cB0 := HB.out.cell 0
  have cB1 := HB.out.cell 1
  have cB2 := HB.out.cell 2
  have cB3 := HB.out.cell 3
  have cB4 := HB.out.cell 4
  have cB5 := HB.out.cell 5
  have tB := HB.out.lt
  have cC0 := HC.out.cell 0
  have cC1 := HC.out.cell 1
  have cC2 := HC.out.cell 2
  have cC3 := HC.out.cell 3
  have cC4 := HC.out.cell 4
  have cC5 := HC.out.cell 5
  have tC := HC.out.lt
  have ca0 := Ha.out.cell 0
  have ca1 := Ha.out.cell 1
  have ca2 := Ha.out.cell 2
  have ca3 := Ha.out.cell 3
  have ca4 := Ha.out.cell 4
  have ca5 := Ha.out.cell 5
  have ta := Ha.out.lt
  go_wp2_with fail
  clear cA0 cA1 cA2 cA3 cA4 cA5 tA
  clear cB0 cB1 cB2 cB3 cB4 cB5 tB
  clear cC0 cC1 cC2 cC3 cC4 cC5 tC
  clear ca0 ca1 ca2 ca3 ca4 ca5 ta
  have La : w.heap.size < w5.heap.size := Ha.out.lt
  have Lp : (w.heap.size + 1) < w5.heap.size := Hp.out.lt
  have Lx : (w.heap.size + 1 + 1) < w5.heap.size := Hx.out.lt
  have LA : w2.heap.size < w5.heap.size := HA.out.lt
  have LB : w3.heap.size < w5.heap.size := HB.out.lt
  have LC : w4.heap.size < w5.heap.size := HC.out.lt
  have naD : w.heap.size ≠ w5.heap.size := Nat.ne_of_lt La
  have nDa : w5.heap.size ≠ w.heap.size := Ne.symm naD
  clear La
  have npD : (w.heap.size + 1) ≠ w5.heap.size := Nat.ne_of_lt Lp
  have nDp : w5.heap.size ≠ (w.heap.size + 1) := Ne.symm npD
  clear Lp
  have nxD : (w.heap.size + 1 + 1) ≠ w5.heap.size := Nat.ne_of_lt Lx
  have nDx : w5.heap.size ≠ (w.heap.size + 1 + 1) := Ne.symm nxD
  clear Lx
  have nAD : w2.heap.size ≠ w5.heap.size := Nat.ne_of_lt LA
  have nDA : w5.heap.size ≠ w2.heap.size := Ne.symm nAD
  clear LA
  have nBD : w3.heap.size ≠ w5.heap.size := Nat.ne_of_lt LB
  have nDB : w5.heap.size ≠ w3.heap.size := Ne.symm nBD
  clear LB
  have nCD : w4.heap.size ≠ w5.heap.size := Nat.ne_of_lt LC
  have nDC : w5.heap.size ≠ w4.heap.size := Ne.symm nCD
  clear LC
  have Ha : Hid (Blk (w5.alloc (.cells #[.int .i64 C.d, .int .i64 C.m, .int .i64 C.c, .int .i64 C.t, .int .i64 C.s, .int .i64 C.g] 23)) w.heap.size 23 (wnA R)) := Lib.hid (Ha.out.kept ((Kept.refl _).alloc _))
  have Hp : Hid (Blk (w5.alloc (.cells #[.int .i64 C.d, .int .i64 C.m, .int .i64 C.c, .int .i64 C.t, .int .i64 C.s, .int .i64 C.g] 23)) (w.heap.size + 1) 25 #[.int .i64 q.n, .int .i64 q.t, .int .i64 q.z, .bool q.e, .bool q.f, .bool q.k]) := Lib.hid (Hp.out.kept ((Kept.refl _).alloc _))
  have Hx : Hid (Blk (w5.alloc (.cells #[.int .i64 C.d, .int .i64 C.m, .int .i64 C.c, .int .i64 C.t, .int .i64 C.s, .int .i64 C.g] 23)) (w.heap.size + 1 + 1) 26 #[.int .i64 x, .int .i64 y, .int .i64 z]) := Lib.hid (Hx.out.kept ((Kept.refl _).alloc _))
  have HA : Hid (Blk (w5.alloc (.cells #[.int .i64 C.d, .int .i64 C.m, .int .i64 C.c, .int .i64 C.t, .int .i64 C.s, .int .i64 C.g] 23)) w2.heap.size 23 (wnA A)) := Lib.hid (HA.out.kept ((Kept.refl _).alloc _))
  have HB : Hid (Blk (w5.alloc (.cells #[.int .i64 C.d, .int .i64 C.m, .int .i64 C.c, .int .i64 C.t, .int .i64 C.s, .int .i64 C.g] 23)) w3.heap.size 23 (wnA A)) := Lib.hid (HB.out.kept ((Kept.refl _).alloc _))
  have HC : Hid (Blk (w5.alloc (.cells #[.int .i64 C.d, .int .i64 C.m, .int .i64 C.c, .int .i64 C.t, .int .i64 C.s, .int .i64 C.g] 23)) w4.heap.size 23 (wnA C)) := Lib.hid (HC.out.kept ((Kept.refl _).alloc _))
  have HD : Hid (Blk (w5.alloc (.cells #[.int .i64 C.d, .int .i64 C.m, .int .i64 C.c, .int .i64 C.t, .int .i64 C.s, .int .i64 C.g] 23)) w5.heap.size 23 (wnA C)) := Lib.hid (Blk.new _ _ _)
  have zD : w.heap.size ≤ w5.heap.size := K.out.size
  have K : Hid (Kept w (w5.alloc (.cells #[.int .i64 C.d, .int .i64 C.m, .int .i64 C.c, .int .i64 C.t, .int .i64 C.s, .int .i64 C.g] 23))) := Lib.hid (K.out.alloc _)
  refine (k5.out _).mono ?_
  rintro e w6 ⟨rfl, hk⟩
  have Ha : Hid (Blk w6 w.heap.size 23 (wnA R)) := Lib.hid (Ha.out.kept hk)
  have Hp : Hid (Blk w6 (w.heap.size + 1) 25 #[.int .i64 q.n, .int .i64 q.t, .int .i64 q.z, .bool q.e, .bool q.f, .bool q.k]) := Lib.hid (Hp.out.kept hk)
  have Hx : Hid (Blk w6 (w.heap.size + 1 + 1) 26 #[.int .i64 x, .int .i64 y, .int .i64 z]) := Lib.hid (Hx.out.kept hk)
  have HA : Hid (Blk w6 w2.heap.size 23 (wnA A)) := Lib.hid (HA.out.kept hk)
  have HB : Hid (Blk w6 w3.heap.size 23 (wnA A)) := Lib.hid (HB.out.kept hk)
  have HC : Hid (Blk w6 w4.heap.size 23 (wnA C)) := Lib.hid (HC.out.kept hk)
  have HD : Hid (Blk w6 w5.heap.size 23 (wnA C)) := Lib.hid (HD.out.kept hk)
  have K : Hid (Kept w w6) := Lib.hid (K.out.trans hk)
  clear hk
  have cA0 := HA.out.cell 0
  have cA1 := HA.out.cell 1
  have cA2 := HA.out.cell 2
  have cA3 := HA.out.cell 3
  have cA4 := HA.out.cell 4
  have cA5 := HA.out.cell 5
  have fA0 := HA.out.frozen 0
  have fA1 := HA.out.frozen 1
  have fA2 := HA.out.frozen 2
  have fA3 := HA.out.frozen 3
  have fA4 := HA.out.frozen 4
  have fA5 := HA.out.frozen 5
  have tA := HA.out.lt
  have ca0 := Ha.out.cell 0
  have ca1 := Ha.out.cell 1
  have ca2 := Ha.out.cell 2
  have ca3 := Ha.out.cell 3
  have ca4 := Ha.out.cell 4
  have ca5 := Ha.out.cell 5
  have ta := Ha.out.lt
  go_wp2_with fail
  clear cA0 cA1 cA2 cA3 cA4 cA5 fA0 fA1 fA2 fA3 fA4 fA5 tA
  clear ca0 ca1 ca2 ca3 ca4 ca5 ta
  have Ha : Hid (Blk ((((((w6.setCell ⟨w2.heap.size, 0, none⟩ (.int .i64 E.d)).setCell ⟨w2.heap.size, 1, none⟩ (.int .i64 E.m)).setCell ⟨w2.heap.size, 2, none⟩ (.int .i64 E.c)).setCell ⟨w2.heap.size, 3, none⟩ (.int .i64 E.t)).setCell ⟨w2.heap.size, 4, none⟩ (.int .i64 E.s)).setCell ⟨w2.heap.size, 5, none⟩ (.int .i64 E.g)) w.heap.size 23 (wnA R)) := Lib.hid (six_far Ha.out (by omega) E)
  have Hp : Hid (Blk ((((((w6.setCell ⟨w2.heap.size, 0, none⟩ (.int .i64 E.d)).setCell ⟨w2.heap.size, 1, none⟩ (.int .i64 E.m)).setCell ⟨w2.heap.size, 2, none⟩ (.int .i64 E.c)).setCell ⟨w2.heap.size, 3, none⟩ (.int .i64 E.t)).setCell ⟨w2.heap.size, 4, none⟩ (.int .i64 E.s)).setCell ⟨w2.heap.size, 5, none⟩ (.int .i64 E.g)) (w.heap.size + 1) 25 #[.int .i64 q.n, .int .i64 q.t, .int .i64 q.z, .bool q.e, .bool q.f, .bool q.k]) := Lib.hid (six_far Hp.out (by omega) E)
  have Hx : Hid (Blk ((((((w6.setCell ⟨w2.heap.size, 0, none⟩ (.int .i64 E.d)).setCell ⟨w2.heap.size, 1, none⟩ (.int .i64 E.m)).setCell ⟨w2.heap.size, 2, none⟩ (.int .i64 E.c)).setCell ⟨w2.heap.size, 3, none⟩ (.int .i64 E.t)).setCell ⟨w2.heap.size, 4, none⟩ (.int .i64 E.s)).setCell ⟨w2.heap.size, 5, none⟩ (.int .i64 E.g)) (w.heap.size + 1 + 1) 26 #[.int .i64 x, .int .i64 y, .int .i64 z]) := Lib.hid (six_far Hx.out (by omega) E)
  have HA : Hid (Blk ((((((w6.setCell ⟨w2.heap.size, 0, none⟩ (.int .i64 E.d)).setCell ⟨w2.heap.size, 1, none⟩ (.int .i64 E.m)).setCell ⟨w2.heap.size, 2, none⟩ (.int .i64 E.c)).setCell ⟨w2.heap.size, 3, none⟩ (.int .i64 E.t)).setCell ⟨w2.heap.size, 4, none⟩ (.int .i64 E.s)).setCell ⟨w2.heap.size, 5, none⟩ (.int .i64 E.g)) w2.heap.size 23 (wnA E)) := Lib.hid (six_blk (y := E) HA.out)
  have HB : Hid (Blk ((((((w6.setCell ⟨w2.heap.size, 0, none⟩ (.int .i64 E.d)).setCell ⟨w2.heap.size, 1, none⟩ (.int .i64 E.m)).setCell ⟨w2.heap.size, 2, none⟩ (.int .i64 E.c)).setCell ⟨w2.heap.size, 3, none⟩ (.int .i64 E.t)).setCell ⟨w2.heap.size, 4, none⟩ (.int .i64 E.s)).setCell ⟨w2.heap.size, 5, none⟩ (.int .i64 E.g)) w3.heap.size 23 (wnA A)) := Lib.hid (six_far HB.out (by omega) E)
  have HC : Hid (Blk ((((((w6.setCell ⟨w2.heap.size, 0, none⟩ (.int .i64 E.d)).setCell ⟨w2.heap.size, 1, none⟩ (.int .i64 E.m)).setCell ⟨w2.heap.size, 2, none⟩ (.int .i64 E.c)).setCell ⟨w2.heap.size, 3, none⟩ (.int .i64 E.t)).setCell ⟨w2.heap.size, 4, none⟩ (.int .i64 E.s)).setCell ⟨w2.heap.size, 5, none⟩ (.int .i64 E.g)) w4.heap.size 23 (wnA C)) := Lib.hid (six_far HC.out (by omega) E)
  have HD : Hid (Blk ((((((w6.setCell ⟨w2.heap.size, 0, none⟩ (.int .i64 E.d)).setCell ⟨w2.heap.size, 1, none⟩ (.int .i64 E.m)).setCell ⟨w2.heap.size, 2, none⟩ (.int .i64 E.c)).setCell ⟨w2.heap.size, 3, none⟩ (.int .i64 E.t)).setCell ⟨w2.heap.size, 4, none⟩ (.int .i64 E.s)).setCell ⟨w2.heap.size, 5, none⟩ (.int .i64 E.g)) w5.heap.size 23 (wnA C)) := Lib.hid (six_far HD.out (by omega) E)
  have K : Hid (Kept w ((((((w6.setCell ⟨w2.heap.size, 0, none⟩ (.int .i64 E.d)).setCell ⟨w2.heap.size, 1, none⟩ (.int .i64 E.m)).setCell ⟨w2.heap.size, 2, none⟩ (.int .i64 E.c)).setCell ⟨w2.heap.size, 3, none⟩ (.int .i64 E.t)).setCell ⟨w2.heap.size, 4, none⟩ (.int .i64 E.s)).setCell ⟨w2.heap.size, 5, none⟩ (.int .i64 E.g))) := Lib.hid (six_kept K.out (by omega) E)
  refine (k6.out _).mono ?_
  rintro e w7 ⟨rfl, hk⟩
  have Ha : Hid (Blk w7 w.heap.size 23 (wnA R)) := Lib.hid (Ha.out.kept hk)
  have Hp : Hid (Blk w7 (w.heap.size + 1) 25 #[.int .i64 q.n, .int .i64 q.t, .int .i64 q.z, .bool q.e, .bool q.f, .bool q.k]) := Lib.hid (Hp.out.kept hk)
  have Hx : Hid (Blk w7 (w.heap.size + 1 + 1) 26 #[.int .i64 x, .int .i64 y, .int .i64 z]) := Lib.hid (Hx.out.kept hk)
  have HA : Hid (Blk w7 w2.heap.size 23 (wnA E)) := Lib.hid (HA.out.kept hk)
  have HB : Hid (Blk w7 w3.heap.size 23 (wnA A)) := Lib.hid (HB.out.kept hk)
  have HC : Hid (Blk w7 w4.heap.size 23 (wnA C)) := Lib.hid (HC.out.kept hk)
  have HD : Hid (Blk w7 w5.heap.size 23 (wnA C)) := Lib.hid (HD.out.kept hk)
  have K : Hid (Kept w w7) := Lib.hid (K.out.trans hk)
  clear hk
  have cB0 := HB.out.cell 0
  have cB1 := HB.out.cell 1
  have cB2 := HB.out.cell 2
  have cB3 := HB.out.cell 3
  have cB4 := HB.out.cell 4
  have cB5 := HB.out.cell 5
  have fB0 := HB.out.frozen 0
  have fB1 := HB.out.frozen 1
  have fB2 := HB.out.frozen 2
  have fB3 := HB.out.frozen 3
  have fB4 := HB.out.frozen 4
  have fB5 := HB.out.frozen 5
  have tB := HB.out.lt
  have cx0 := Hx.out.cell 0
  have cx1 := Hx.out.cell 1
  have cx2 := Hx.out.cell 2
  have tx := Hx.out.lt
  go_wp2_with fail
  clear cB0 cB1 cB2 cB3 cB4 cB5 fB0 fB1 fB2 fB3 fB4 fB5 tB
  clear cx0 cx1 cx2 tx
  have Ha : Hid (Blk ((((((w7.setCell ⟨w3.heap.size, 0, none⟩ (.int .i64 E.d)).setCell ⟨w3.heap.size, 1, none⟩ (.int .i64 E.m)).setCell ⟨w3.heap.size, 2, none⟩ (.int .i64 E.c)).setCell ⟨w3.heap.size, 3, none⟩ (.int .i64 E.t)).setCell ⟨w3.heap.size, 4, none⟩ (.int .i64 E.s)).setCell ⟨w3.heap.size, 5, none⟩ (.int .i64 E.g)) w.heap.size 23 (wnA R)) := Lib.hid (six_far Ha.out (by omega) E)
  have Hp : Hid (Blk ((((((w7.setCell ⟨w3.heap.size, 0, none⟩ (.int .i64 E.d)).setCell ⟨w3.heap.size, 1, none⟩ (.int .i64 E.m)).setCell ⟨w3.heap.size, 2, none⟩ (.int .i64 E.c)).setCell ⟨w3.heap.size, 3, none⟩ (.int .i64 E.t)).setCell ⟨w3.heap.size, 4, none⟩ (.int .i64 E.s)).setCell ⟨w3.heap.size, 5, none⟩ (.int .i64 E.g)) (w.heap.size + 1) 25 #[.int .i64 q.n, .int .i64 q.t, .int .i64 q.z, .bool q.e, .bool q.f, .bool q.k]) := Lib.hid (six_far Hp.out (by omega) E)
  have Hx : Hid (Blk ((((((w7.setCell ⟨w3.heap.size, 0, none⟩ (.int .i64 E.d)).setCell ⟨w3.heap.size, 1, none⟩ (.int .i64 E.m)).setCell ⟨w3.heap.size, 2, none⟩ (.int .i64 E.c)).setCell ⟨w3.heap.size, 3, none⟩ (.int .i64 E.t)).setCell ⟨w3.heap.size, 4, none⟩ (.int .i64 E.s)).setCell ⟨w3.heap.size, 5, none⟩ (.int .i64 E.g)) (w.heap.size + 1 + 1) 26 #[.int .i64 x, .int .i64 y, .int .i64 z]) := Lib.hid (six_far Hx.out (by omega) E)
  have HA : Hid (Blk ((((((w7.setCell ⟨w3.heap.size, 0, none⟩ (.int .i64 E.d)).setCell ⟨w3.heap.size, 1, none⟩ (.int .i64 E.m)).setCell ⟨w3.heap.size, 2, none⟩ (.int .i64 E.c)).setCell ⟨w3.heap.size, 3, none⟩ (.int .i64 E.t)).setCell ⟨w3.heap.size, 4, none⟩ (.int .i64 E.s)).setCell ⟨w3.heap.size, 5, none⟩ (.int .i64 E.g)) w2.heap.size 23 (wnA E)) := Lib.hid (six_far HA.out (by omega) E)
  have HB : Hid (Blk ((((((w7.setCell ⟨w3.heap.size, 0, none⟩ (.int .i64 E.d)).setCell ⟨w3.heap.size, 1, none⟩ (.int .i64 E.m)).setCell ⟨w3.heap.size, 2, none⟩ (.int .i64 E.c)).setCell ⟨w3.heap.size, 3, none⟩ (.int .i64 E.t)).setCell ⟨w3.heap.size, 4, none⟩ (.int .i64 E.s)).setCell ⟨w3.heap.size, 5, none⟩ (.int .i64 E.g)) w3.heap.size 23 (wnA E)) := Lib.hid (six_blk (y := E) HB.out)
  have HC : Hid (Blk ((((((w7.setCell ⟨w3.heap.size, 0, none⟩ (.int .i64 E.d)).setCell ⟨w3.heap.size, 1, none⟩ (.int .i64 E.m)).setCell ⟨w3.heap.size, 2, none⟩ (.int .i64 E.c)).setCell ⟨w3.heap.size, 3, none⟩ (.int .i64 E.t)).setCell ⟨w3.heap.size, 4, none⟩ (.int .i64 E.s)).setCell ⟨w3.heap.size, 5, none⟩ (.int .i64 E.g)) w4.heap.size 23 (wnA C)) := Lib.hid (six_far HC.out (by omega) E)
  have HD : Hid (Blk ((((((w7.setCell ⟨w3.heap.size, 0, none⟩ (.int .i64 E.d)).setCell ⟨w3.heap.size, 1, none⟩ (.int .i64 E.m)).setCell ⟨w3.heap.size, 2, none⟩ (.int .i64 E.c)).setCell ⟨w3.heap.size, 3, none⟩ (.int .i64 E.t)).setCell ⟨w3.heap.size, 4, none⟩ (.int .i64 E.s)).setCell ⟨w3.heap.size, 5, none⟩ (.int .i64 E.g)) w5.heap.size 23 (wnA C)) := Lib.hid (six_far HD.out (by omega) E)
  have K : Hid (Kept w ((((((w7.setCell ⟨w3.heap.size, 0, none⟩ (.int .i64 E.d)).setCell ⟨w3.heap.size, 1, none⟩ (.int .i64 E.m)).setCell ⟨w3.heap.size, 2, none⟩ (.int .i64 E.c)).setCell ⟨w3.heap.size, 3, none⟩ (.int .i64 E.t)).setCell ⟨w3.heap.size, 4, none⟩ (.int .i64 E.s)).setCell ⟨w3.heap.size, 5, none⟩ (.int .i64 E.g))) := Lib.hid (six_kept K.out (by omega) E)
  refine (k7.out _).mono ?_
  rintro e w8 ⟨rfl, hk⟩
  have Ha : Hid (Blk w8 w.heap.size 23 (wnA R)) := Lib.hid (Ha.out.kept hk)
  have Hp : Hid (Blk w8 (w.heap.size + 1) 25 #[.int .i64 q.n, .int .i64 q.t, .int .i64 q.z, .bool q.e, .bool q.f, .bool q.k]) := Lib.hid (Hp.out.kept hk)
  have Hx : Hid (Blk w8 (w.heap.size + 1 + 1) 26 #[.int .i64 x, .int .i64 y, .int .i64 z]) := Lib.hid (Hx.out.kept hk)
  have HA : Hid (Blk w8 w2.heap.size 23 (wnA E)) := Lib.hid (HA.out.kept hk)
  have HB : Hid (Blk w8 w3.heap.size 23 (wnA E)) := Lib.hid (HB.out.kept hk)
  have HC : Hid (Blk w8 w4.heap.size 23 (wnA C)) := Lib.hid (HC.out.kept hk)
  have HD : Hid (Blk w8 w5.heap.size 23 (wnA C)) := Lib.hid (HD.out.kept hk)
  have K : Hid (Kept w w8) := Lib.hid (K.out.trans hk)
  clear hk
  have cC0 := HC.out.cell 0
  have cC1 := HC.out.cell 1
  have cC2 := HC.out.cell 2
  have cC3 := HC.out.cell 3
  have cC4 := HC.out.cell 4
  have cC5 := HC.out.cell 5
  have fC0 := HC.out.frozen 0
  have fC1 := HC.out.frozen 1
  have fC2 := HC.out.frozen 2
  have fC3 := HC.out.frozen 3
  have fC4 := HC.out.frozen 4
  have fC5 := HC.out.frozen 5
  have tC := HC.out.lt
  have cx0 := Hx.out.cell 0
  have cx1 := Hx.out.cell 1
  have cx2 := Hx.out.cell 2
  have tx := Hx.out.lt
  go_wp2_with fail
  clear cC0 cC1 cC2 cC3 cC4 cC5 fC0 fC1 fC2 fC3 fC4 fC5 tC
  clear cx0 cx1 cx2 tx
  have Ha : Hid (Blk ((((((w8.setCell ⟨w4.heap.size, 0, none⟩ (.int .i64 F.d)).setCell ⟨w4.heap.size, 1, none⟩ (.int .i64 F.m)).setCell ⟨w4.heap.size, 2, none⟩ (.int .i64 F.c)).setCell ⟨w4.heap.size, 3, none⟩ (.int .i64 F.t)).setCell ⟨w4.heap.size, 4, none⟩ (.int .i64 F.s)).setCell ⟨w4.heap.size, 5, none⟩ (.int .i64 F.g)) w.heap.size 23 (wnA R)) := Lib.hid (six_far Ha.out (by omega) F)
  have Hp : Hid (Blk ((((((w8.setCell ⟨w4.heap.size, 0, none⟩ (.int .i64 F.d)).setCell ⟨w4.heap.size, 1, none⟩ (.int .i64 F.m)).setCell ⟨w4.heap.size, 2, none⟩ (.int .i64 F.c)).setCell ⟨w4.heap.size, 3, none⟩ (.int .i64 F.t)).setCell ⟨w4.heap.size, 4, none⟩ (.int .i64 F.s)).setCell ⟨w4.heap.size, 5, none⟩ (.int .i64 F.g)) (w.heap.size + 1) 25 #[.int .i64 q.n, .int .i64 q.t, .int .i64 q.z, .bool q.e, .bool q.f, .bool q.k]) := Lib.hid (six_far Hp.out (by omega) F)
  have Hx : Hid (Blk ((((((w8.setCell ⟨w4.heap.size, 0, none⟩ (.int .i64 F.d)).setCell ⟨w4.heap.size, 1, none⟩ (.int .i64 F.m)).setCell ⟨w4.heap.size, 2, none⟩ (.int .i64 F.c)).setCell ⟨w4.heap.size, 3, none⟩ (.int .i64 F.t)).setCell ⟨w4.heap.size, 4, none⟩ (.int .i64 F.s)).setCell ⟨w4.heap.size, 5, none⟩ (.int .i64 F.g)) (w.heap.size + 1 + 1) 26 #[.int .i64 x, .int .i64 y, .int .i64 z]) := Lib.hid (six_far Hx.out (by omega) F)
  have HA : Hid (Blk ((((((w8.setCell ⟨w4.heap.size, 0, none⟩ (.int .i64 F.d)).setCell ⟨w4.heap.size, 1, none⟩ (.int .i64 F.m)).setCell ⟨w4.heap.size, 2, none⟩ (.int .i64 F.c)).setCell ⟨w4.heap.size, 3, none⟩ (.int .i64 F.t)).setCell ⟨w4.heap.size, 4, none⟩ (.int .i64 F.s)).setCell ⟨w4.heap.size, 5, none⟩ (.int .i64 F.g)) w2.heap.size 23 (wnA E)) := Lib.hid (six_far HA.out (by omega) F)
  have HB : Hid (Blk ((((((w8.setCell ⟨w4.heap.size, 0, none⟩ (.int .i64 F.d)).setCell ⟨w4.heap.size, 1, none⟩ (.int .i64 F.m)).setCell ⟨w4.heap.size, 2, none⟩ (.int .i64 F.c)).setCell ⟨w4.heap.size, 3, none⟩ (.int .i64 F.t)).setCell ⟨w4.heap.size, 4, none⟩ (.int .i64 F.s)).setCell ⟨w4.heap.size, 5, none⟩ (.int .i64 F.g)) w3.heap.size 23 (wnA E)) := Lib.hid (six_far HB.out (by omega) F)
  have HC : Hid (Blk ((((((w8.setCell ⟨w4.heap.size, 0, none⟩ (.int .i64 F.d)).setCell ⟨w4.heap.size, 1, none⟩ (.int .i64 F.m)).setCell ⟨w4.heap.size, 2, none⟩ (.int .i64 F.c)).setCell ⟨w4.heap.size, 3, none⟩ (.int .i64 F.t)).setCell ⟨w4.heap.size, 4, none⟩ (.int .i64 F.s)).setCell ⟨w4.heap.size, 5, none⟩ (.int .i64 F.g)) w4.heap.size 23 (wnA F)) := Lib.hid (six_blk (y := F) HC.out)
  have HD : Hid (Blk ((((((w8.setCell ⟨w4.heap.size, 0, none⟩ (.int .i64 F.d)).setCell ⟨w4.heap.size, 1, none⟩ (.int .i64 F.m)).setCell ⟨w4.heap.size, 2, none⟩ (.int .i64 F.c)).setCell ⟨w4.heap.size, 3, none⟩ (.int .i64 F.t)).setCell ⟨w4.heap.size, 4, none⟩ (.int .i64 F.s)).setCell ⟨w4.heap.size, 5, none⟩ (.int .i64 F.g)) w5.heap.size 23 (wnA C)) := Lib.hid (six_far HD.out (by omega) F)
  have K : Hid (Kept w ((((((w8.setCell ⟨w4.heap.size, 0, none⟩ (.int .i64 F.d)).setCell ⟨w4.heap.size, 1, none⟩ (.int .i64 F.m)).setCell ⟨w4.heap.size, 2, none⟩ (.int .i64 F.c)).setCell ⟨w4.heap.size, 3, none⟩ (.int .i64 F.t)).setCell ⟨w4.heap.size, 4, none⟩ (.int .i64 F.s)).setCell ⟨w4.heap.size, 5, none⟩ (.int .i64 F.g))) := Lib.hid (six_kept K.out (by omega) F)
  refine (k8.out _).mono ?_
  rintro e w9 ⟨rfl, hk⟩
  have Ha : Hid (Blk w9 w.heap.size 23 (wnA R)) := Lib.hid (Ha.out.kept hk)
  have Hp : Hid (Blk w9 (w.heap.size + 1) 25 #[.int .i64 q.n, .int .i64 q.t, .int .i64 q.z, .bool q.e, .bool q.f, .bool q.k]) := Lib.hid (Hp.out.kept hk)
  have Hx : Hid (Blk w9 (w.heap.size + 1 + 1) 26 #[.int .i64 x, .int .i64 y, .int .i64 z]) := Lib.hid (Hx.out.kept hk)
  have HA : Hid (Blk w9 w2.heap.size 23 (wnA E)) := Lib.hid (HA.out.kept hk)
  have HB : Hid (Blk w9 w3.heap.size 23 (wnA E)) := Lib.hid (HB.out.kept hk)
  have HC : Hid (Blk w9 w4.heap.size 23 (wnA F)) := Lib.hid (HC.out.kept hk)
  have HD : Hid (Blk w9 w5.heap.size 23 (wnA C)) := Lib.hid (HD.out.kept hk)
  have K : Hid (Kept w w9) := Lib.hid (K.out.trans hk)
  clear hk
  have cD0 := HD.out.cell 0
  have cD1 := HD.out.cell 1
  have cD2 := HD.out.cell 2
  have cD3 := HD.out.cell 3
  have cD4 := HD.out.cell 4
  have cD5 := HD.out.cell 5
  have fD0 := HD.out.frozen 0
  have fD1 := HD.out.frozen 1
  have fD2 := HD.out.frozen 2
  have fD3 := HD.out.frozen 3
  have fD4 := HD.out.frozen 4
  have fD5 := HD.out.frozen 5
  have tD := HD.out.lt
  go_upto_region 12 with (fail)
  clear cD0 cD1 cD2 cD3 cD4 cD5 fD0 fD1 fD2 fD3 fD4 fD5 tD
  have Ha : Hid (Blk ((((((w9.setCell ⟨w5.heap.size, 0, none⟩ (.int .i64 F.d)).setCell ⟨w5.heap.size, 1, none⟩ (.int .i64 F.m)).setCell ⟨w5.heap.size, 2, none⟩ (.int .i64 F.c)).setCell ⟨w5.heap.size, 3, none⟩ (.int .i64 F.t)).setCell ⟨w5.heap.size, 4, none⟩ (.int .i64 F.s)).setCell ⟨w5.heap.size, 5, none⟩ (.int .i64 F.g)) w.heap.size 23 (wnA R)) := Lib.hid (six_far Ha.out (by omega) F)
  have Hp : Hid (Blk ((((((w9.setCell ⟨w5.heap.size, 0, none⟩ (.int .i64 F.d)).setCell ⟨w5.heap.size, 1, none⟩ (.int .i64 F.m)).setCell ⟨w5.heap.size, 2, none⟩ (.int .i64 F.c)).setCell ⟨w5.heap.size, 3, none⟩ (.int .i64 F.t)).setCell ⟨w5.heap.size, 4, none⟩ (.int .i64 F.s)).setCell ⟨w5.heap.size, 5, none⟩ (.int .i64 F.g)) (w.heap.size + 1) 25 #[.int .i64 q.n, .int .i64 q.t, .int .i64 q.z, .bool q.e, .bool q.f, .bool q.k]) := Lib.hid (six_far Hp.out (by omega) F)
  have Hx : Hid (Blk ((((((w9.setCell ⟨w5.heap.size, 0, none⟩ (.int .i64 F.d)).setCell ⟨w5.heap.size, 1, none⟩ (.int .i64 F.m)).setCell ⟨w5.heap.size, 2, none⟩ (.int .i64 F.c)).setCell ⟨w5.heap.size, 3, none⟩ (.int .i64 F.t)).setCell ⟨w5.heap.size, 4, none⟩ (.int .i64 F.s)).setCell ⟨w5.heap.size, 5, none⟩ (.int .i64 F.g)) (w.heap.size + 1 + 1) 26 #[.int .i64 x, .int .i64 y, .int .i64 z]) := Lib.hid (six_far Hx.out (by omega) F)
  have HA : Hid (Blk ((((((w9.setCell ⟨w5.heap.size, 0, none⟩ (.int .i64 F.d)).setCell ⟨w5.heap.size, 1, none⟩ (.int .i64 F.m)).setCell ⟨w5.heap.size, 2, none⟩ (.int .i64 F.c)).setCell ⟨w5.heap.size, 3, none⟩ (.int .i64 F.t)).setCell ⟨w5.heap.size, 4, none⟩ (.int .i64 F.s)).setCell ⟨w5.heap.size, 5, none⟩ (.int .i64 F.g)) w2.heap.size 23 (wnA E)) := Lib.hid (six_far HA.out (by omega) F)
  have HB : Hid (Blk ((((((w9.setCell ⟨w5.heap.size, 0, none⟩ (.int .i64 F.d)).setCell ⟨w5.heap.size, 1, none⟩ (.int .i64 F.m)).setCell ⟨w5.heap.size, 2, none⟩ (.int .i64 F.c)).setCell ⟨w5.heap.size, 3, none⟩ (.int .i64 F.t)).setCell ⟨w5.heap.size, 4, none⟩ (.int .i64 F.s)).setCell ⟨w5.heap.size, 5, none⟩ (.int .i64 F.g)) w3.heap.size 23 (wnA E)) := Lib.hid (six_far HB.out (by omega) F)
  have HC : Hid (Blk ((((((w9.setCell ⟨w5.heap.size, 0, none⟩ (.int .i64 F.d)).setCell ⟨w5.heap.size, 1, none⟩ (.int .i64 F.m)).setCell ⟨w5.heap.size, 2, none⟩ (.int .i64 F.c)).setCell ⟨w5.heap.size, 3, none⟩ (.int .i64 F.t)).setCell ⟨w5.heap.size, 4, none⟩ (.int .i64 F.s)).setCell ⟨w5.heap.size, 5, none⟩ (.int .i64 F.g)) w4.heap.size 23 (wnA F)) := Lib.hid (six_far HC.out (by omega) F)
  have HD : Hid (Blk ((((((w9.setCell ⟨w5.heap.size, 0, none⟩ (.int .i64 F.d)).setCell ⟨w5.heap.size, 1, none⟩ (.int .i64 F.m)).setCell ⟨w5.heap.size, 2, none⟩ (.int .i64 F.c)).setCell ⟨w5.heap.size, 3, none⟩ (.int .i64 F.t)).setCell ⟨w5.heap.size, 4, none⟩ (.int .i64 F.s)).setCell ⟨w5.heap.size, 5, none⟩ (.int .i64 F.g)) w5.heap.size 23 (wnA F)) := Lib.hid (six_blk (y := F) HD.out)
  have K : Hid (Kept w ((((((w9.setCell ⟨w5.heap.size, 0, none⟩ (.int .i64 F.d)).setCell ⟨w5.heap.size, 1, none⟩ (.int .i64 F.m)).setCell ⟨w5.heap.size, 2, none⟩ (.int .i64 F.c)).setCell ⟨w5.heap.size, 3, none⟩ (.int .i64 F.t)).setCell ⟨w5.heap.size, 4, none⟩ (.int .i64 F.s)).setCell ⟨w5.heap.size, 5, none⟩ (.int .i64 F.g))) := Lib.hid (six_kept K.out (by omega) F)
  obtain ⟨U, hU⟩ : ∃ U, ((((((w9.setCell ⟨w5.heap.size, 0, none⟩ (.int .i64 F.d)).setCell ⟨w5.heap.size, 1, none⟩ (.int .i64 F.m)).setCell ⟨w5.heap.size, 2, none⟩ (.int .i64 F.c)).setCell ⟨w5.heap.size, 3, none⟩ (.int .i64 F.t)).setCell ⟨w5.heap.size, 4, none⟩ (.int .i64 F.s)).setCell ⟨w5.heap.size, 5, none⟩ (.int .i64 F.g)) = U := ⟨_, rfl⟩
  rw [hU]
  have T0 : Hid (Tb w w.heap.size w2.heap.size w3.heap.size w4.heap.size w5.heap.size R E F U) := Lib.hid (by rw [← hU]; exact ⟨Ha.out, HA.out, HB.out, HC.out, HD.out, K.out⟩)
  clear hU Ha HA HB HC HD Hp Hx K
  generalize w2.heap.size = b1 at *
  generalize w3.heap.size = b2 at *
  generalize w4.heap.size = b3 at *
  generalize w5.heap.size = b4 at *
  generalize w.heap.size = a at *
  have D : Hid (Tb w a b1 b2 b3 b4 R E F U.drew) := Lib.hid (T0.out.on (Kept.refl U).drew)
  go_region_held3 (fun V => V.cell? ⟨a, 0, none⟩ = some (.int .i64 R.d) ∧ V.cell? ⟨a, 1, none⟩ = some (.int .i64 R.m) ∧ V.cell? ⟨a, 2, none⟩ = some (.int .i64 R.c) ∧ V.cell? ⟨a, 3, none⟩ = some (.int .i64 R.t) ∧ V.cell? ⟨a, 4, none⟩ = some (.int .i64 R.s) ∧ V.cell? ⟨a, 5, none⟩ = some (.int .i64 R.g) ∧ V.cell? ⟨b1, 0, none⟩ = some (.int .i64 E.d) ∧ V.cell? ⟨b1, 1, none⟩ = some (.int .i64 E.m) ∧ V.cell? ⟨b1, 2, none⟩ = some (.int .i64 E.c) ∧ V.cell? ⟨b1, 3, none⟩ = some (.int .i64 E.t) ∧ V.cell? ⟨b1, 4, none⟩ = some (.int .i64 E.s) ∧ V.cell? ⟨b1, 5, none⟩ = some (.int .i64 E.g) ∧ V.cell? ⟨b2, 0, none⟩ = some (.int .i64 E.d) ∧ V.cell? ⟨b2, 1, none⟩ = some (.int .i64 E.m) ∧ V.cell? ⟨b2, 2, none⟩ = some (.int .i64 E.c) ∧ V.cell? ⟨b2, 3, none⟩ = some (.int .i64 E.t) ∧ V.cell? ⟨b2, 4, none⟩ = some (.int .i64 E.s) ∧ V.cell? ⟨b2, 5, none⟩ = some (.int .i64 E.g) ∧ V.cell? ⟨b3, 0, none⟩ = some (.int .i64 F.d) ∧ V.cell? ⟨b3, 1, none⟩ = some (.int .i64 F.m) ∧ V.cell? ⟨b3, 2, none⟩ = some (.int .i64 F.c) ∧ V.cell? ⟨b3, 3, none⟩ = some (.int .i64 F.t) ∧ V.cell? ⟨b3, 4, none⟩ = some (.int .i64 F.s) ∧ V.cell? ⟨b3, 5, none⟩ = some (.int .i64 F.g) ∧ V.cell? ⟨b4, 0, none⟩ = some (.int .i64 F.d) ∧ V.cell? ⟨b4, 1, none⟩ = some (.int .i64 F.m) ∧ V.cell? ⟨b4, 2, none⟩ = some (.int .i64 F.c) ∧ V.cell? ⟨b4, 3, none⟩ = some (.int .i64 F.t) ∧ V.cell? ⟨b4, 4, none⟩ = some (.int .i64 F.s) ∧ V.cell? ⟨b4, 5, none⟩ = some (.int .i64 F.g))
    (with_reducible exact D.out.cells)
    (first
      | (go_at_call 20; (refine (k9.out _).mono ?_); rintro e w' ⟨rfl, hk⟩; have D := Lib.hid (D.out.on hk); clear hk)
      | (go_at_call 21; (refine (k10.out _).mono ?_); rintro e w' ⟨rfl, hk⟩; have D := Lib.hid (D.out.on hk); clear hk)
      | (go_at_call 22; (refine (k11.out _).mono ?_); rintro e w' ⟨rfl, hk⟩; have D := Lib.hid (D.out.on hk); clear hk)
      | (go_at_call 23; (refine (k12.out _).mono ?_); rintro e w' ⟨rfl, hk⟩; have D := Lib.hid (D.out.on hk); clear hk)
      | (go_at_call 24; (refine (works_any _).mono ?_); rintro e w' ⟨rfl, hk⟩; have D := Lib.hid (D.out.on hk); clear hk))
  all_goals
    go_wp2_with fail
    go_ret
    exact ⟨rfl, D.out.k⟩
theorem windowTells_any (R : Wn) (q : Pk) (x y z : Int) (w : World) : Calls Try.prog 3 #[wnV R, pkV q, .agg #[.int .i64 x, .int .i64 y, .int .i64 z]] w fun e w' => e = .returned (.bool true) ∧ Kept w w' := tells_any R q x y z w
end Go.Proofs.Ytchnljebhbaghaa.Law
