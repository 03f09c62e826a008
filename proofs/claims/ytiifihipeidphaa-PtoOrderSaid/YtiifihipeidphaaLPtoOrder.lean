/-
  The law PtoOrder: of a greater base, count, or most, what is backed off is at least as great.
-/
import Derived.Test.YtiifihipeidphaaPtoV
import Derived.Test.YtiifihipeidphaaPtoR
import Derived.Test.YtiifihipeidphaaPtoU
import Derived.Deep.Cut
import Derived.Deep.CutRange
import Derived.Deep.RegionHeld3
import Derived.Deep.QuietTactic
import Derived.BigQuiet
import Derived.LoopN
namespace Go.Proofs.Ytiifihipeidphaa.Law
open Go.RowKit RttM Wd Rtt PtoM Pto
set_option linter.unusedVariables false
set_option linter.unusedSimpArgs false

/-- The box of three numbers; since a first world nothing has turned. -/
structure Ar (w W : World) (q : Nat) (x y z : Int) : Prop where
  b : Blk W q 35 #[.int .i64 x, .int .i64 y, .int .i64 z]
  k : Kept w W
theorem Ar.on {w W W' : World} {q : Nat} {x y z : Int} (h : Ar w W q x y z) (k : Kept W W') : Ar w W' q x y z := ⟨h.b.kept k, h.k.trans k⟩
theorem mod_in (a : Int) {n : Int} (h : 0 < n) : 0 ≤ a % n ∧ a % n < n := ⟨Int.emod_nonneg a (by omega), Int.emod_lt_of_pos a h⟩
set_option maxRecDepth 100000 in
set_option maxHeartbeats 2000000 in
theorem ptoOrder_any (x0 x1 x2 y0 y1 y2 : Int) (w : World) : Calls Try.prog 7 #[.agg #[.int .i64 x0, .int .i64 x1, .int .i64 x2], .agg #[.int .i64 y0, .int .i64 y1, .int .i64 y2]] w (GBool true w) := by
  have r1 := fun W => bring_any x0 9007199254740992 W (by omega) (by omega)
  have r2 := fun W => bring_any x1 64 W (by omega) (by omega)
  have r3 := fun W => bring_any x2 64 W (by omega) (by omega)
  obtain ⟨hb0, hb1⟩ := mod_in x0 (n := 9007199254740992) (by omega)
  obtain ⟨hc0, hc1⟩ := mod_in x1 (n := 64) (by omega)
  obtain ⟨hm0, hm1⟩ := mod_in x2 (n := 64) (by omega)
  generalize x0 % 9007199254740992 = b at *
  generalize x1 % 64 = c at *
  generalize x2 % 64 = m at *
  have s0 := fun W => bring_any y0 (9007199254740992 - b) W (by omega) (by omega)
  have s1 := fun W => bring_any y1 64 W (by omega) (by omega)
  have s2 := fun W => bring_any y2 64 W (by omega) (by omega)
  have s3 := fun W => bring_any y1 1099511627776 W (by omega) (by omega)
  obtain ⟨e00, e01⟩ := mod_in y0 (n := 9007199254740992 - b) (by omega)
  obtain ⟨e10, e11⟩ := mod_in y1 (n := 64) (by omega)
  obtain ⟨e20, e21⟩ := mod_in y2 (n := 64) (by omega)
  obtain ⟨e30, e31⟩ := mod_in y1 (n := 1099511627776) (by omega)
  generalize y0 % (9007199254740992 - b) = e0 at *
  generalize y1 % 64 = e1 at *
  generalize y2 % 64 = e2 at *
  generalize y1 % 1099511627776 = e3 at *
  have hN := bk_bd b c m
  rw [Sat.num_id b hb0 (by omega)] at hN
  have g0 := bk_mono (n := b) (n' := b + e0) (c := c) (c' := c) (m := m) (m' := m) (by omega) (by omega) (by omega)
  have g1 := bk_mono (n := b) (n' := b) (c := c) (c' := c + e1) (m := m) (m' := m) (by omega) (by omega) (by omega)
  have g2 := bk_mono (n := b) (n' := b) (c := c) (c' := c) (m := m) (m' := m + e2) (by omega) (by omega) (by omega)
  have g3 : bk b (m + e3) m = bk b m m := by unfold bk; rw [show min (m + e3) m = min m m by omega]
  have w0 : IntKind.i64.wrap (b + e0) = b + e0 := IntWalk.i64_in _ (by omega)
  have w1 : IntKind.i64.wrap (c + e1) = c + e1 := IntWalk.i64_in _ (by omega)
  have w2 : IntKind.i64.wrap (m + e2) = m + e2 := IntWalk.i64_in _ (by omega)
  have w3 : IntKind.i64.wrap (m + e3) = m + e3 := IntWalk.i64_in _ (by omega)
  have w4 : IntKind.i64.wrap (9007199254740992 - b) = 9007199254740992 - b := IntWalk.i64_in _ (by omega)
  obtain ⟨N, hN'⟩ : ∃ N, bk b c m = N := ⟨_, rfl⟩
  obtain ⟨N0, hN0⟩ : ∃ N, bk (b + e0) c m = N := ⟨_, rfl⟩
  obtain ⟨N1, hN1⟩ : ∃ N, bk b (c + e1) m = N := ⟨_, rfl⟩
  obtain ⟨N2, hN2⟩ : ∃ N, bk b c (m + e2) = N := ⟨_, rfl⟩
  obtain ⟨P, hP⟩ : ∃ N, bk b m m = N := ⟨_, rfl⟩
  rw [hP] at g3
  rw [hN', hN0] at g0
  rw [hN', hN1] at g1
  rw [hN', hN2] at g2
  rw [hN'] at hN
  have c0 := backed_is hN'
  have c1 := backed_is hN0
  have c2 := backed_is hN1
  have c3 := backed_is hN2
  have c4 := backed_is hP
  have c5 := backed_is g3
  have l0 : ¬ N < b := by omega
  have l1 : ¬ 9007199254740991 < N := by omega
  have l2 : ¬ N0 < N := by omega
  have l3 : ¬ N1 < N := by omega
  have l4 : ¬ N2 < N := by omega
  clear hN' hN0 hN1 hN2 hP g3 g0 g1 g2 hN hb0 hb1 hc0 hc1 hm0 hm1 e00 e01 e10 e11 e20 e21 e30 e31
  obtain ⟨W, hW, X, Y, KW⟩ := two w #[.int .i64 x0, .int .i64 x1, .int .i64 x2] #[.int .i64 y0, .int .i64 y1, .int .i64 y2] 35 35
  have D : Hid (Ar w W (w.heap.size + 1) y0 y1 y2) := Lib.hid ⟨Y, KW⟩
  clear Y KW
  go_enter Try.func7, Try.ntmps7
  go_upto_region 1 with (fail)
  rw [← hW]
  clear hW
  have xl := X.lt
  have p0 := X.cell 0
  have p1 := X.cell 1
  have p2 := X.cell 2
  clear X
  go_quiet ((first
    | (go_at_call 20; with_reducible exact quiet_same (r1 _))
    | (go_at_call 20; with_reducible exact quiet_same (r2 _))
    | (go_at_call 20; with_reducible exact quiet_same (r3 _))))
  have D := Lib.hid (D.out.on ((Kept.refl _).drewN nq))
  generalize W.drewN nq = W2 at *
  clear p0 p1 p2 xl r1 r2 r3
  generalize hq : w.heap.size + 1 = q at *
  go_wp2_with fail
  refine (c0 _).mono ?_
  rintro e w' ⟨rfl, hk⟩
  have D := Lib.hid (D.out.on hk)
  clear hk
  have z0 := D.out.b.cell 0
  have zl := D.out.b.lt
  go_wp2_with fail
  refine (s0 _).mono ?_
  rintro e w' ⟨rfl, rfl⟩
  clear zl z0
  go_wp2_with fail
  refine (c1 _).mono ?_
  rintro e w' ⟨rfl, hk⟩
  have D := Lib.hid (D.out.on hk)
  clear hk
  have z1 := D.out.b.cell 1
  have zl := D.out.b.lt
  go_wp2_with fail
  refine (s1 _).mono ?_
  rintro e w' ⟨rfl, rfl⟩
  clear zl z1
  go_wp2_with fail
  refine (c2 _).mono ?_
  rintro e w' ⟨rfl, hk⟩
  have D := Lib.hid (D.out.on hk)
  clear hk
  have z2 := D.out.b.cell 2
  have zl := D.out.b.lt
  go_wp2_with fail
  refine (s2 _).mono ?_
  rintro e w' ⟨rfl, rfl⟩
  clear zl z2
  go_wp2_with fail
  refine (c3 _).mono ?_
  rintro e w' ⟨rfl, hk⟩
  have D := Lib.hid (D.out.on hk)
  clear hk
  go_upto_region 5 with (fail)
  have D := Lib.hid (D.out.on (Kept.refl _).drew)
  go_region_held3 (fun V => V.cell? ⟨q, 1, none⟩ = some (.int .i64 y1))
    (exact D.out.b.cell 1)
    (first
      | (go_at_call 20; (refine (s3 _).mono ?_); rintro e w' ⟨rfl, rfl⟩)
      | (go_at_call 15; (with_reducible refine (c4 _).mono ?_); rintro e w' ⟨rfl, hk⟩; have D := Lib.hid (D.out.on hk); clear hk)
      | (go_at_call 15; (with_reducible refine (c5 _).mono ?_); rintro e w' ⟨rfl, hk⟩; have D := Lib.hid (D.out.on hk); clear hk)
      | (go_at_call 14; (refine (works_any _).mono ?_); rintro e w' ⟨rfl, hk⟩; have D := Lib.hid (D.out.on hk); clear hk))
  all_goals
    go_wp2_with fail
    go_ret
    exact ⟨rfl, D.out.k⟩
end Go.Proofs.Ytiifihipeidphaa.Law
