/-
  The walk of the law PaceOrder of layer 14.
-/
import Derived.Test.YtbnbhembnefndaaPacE
namespace Go.Proofs.Ytbnbhembnefndaa.Law
open Go.RowKit BucM PacM Wd Bxs Buc Pac
set_option linter.unusedVariables false
set_option linter.unusedSimpArgs false

set_option maxRecDepth 100000 in
set_option maxHeartbeats 4000000 in
theorem paceOrder_any (burst x0 x1 x2 x3 t : Int) (w : World) : Calls Try.prog 6 #[.int .i64 burst, .agg #[.int .i64 x0, .int .i64 x1, .int .i64 x2, .int .i64 x3], .int .i64 t] w fun e w' => e = .returned (.bool true) ∧ Kept w w' := by
  have kz := Lib.hid (works_any w)
  have k0 := Lib.hid (fun W => bring_any burst 1073741824 W (by decide) (by decide))
  have k1 := Lib.hid (fun W => bring_any t 9007199254740992 W (by decide) (by decide))
  have k2 := Lib.hid (fun W => bring_any x0 1099511627776 W (by decide) (by decide))
  have k3 := Lib.hid (fun W => bring_any x1 9007199254740992 W (by decide) (by decide))
  have a0 := Int.emod_nonneg burst (show (1073741824 : Int) ≠ 0 by decide)
  have b0 := Int.emod_lt_of_pos burst (show (0 : Int) < 1073741824 by decide)
  have a1 := Int.emod_nonneg t (show (9007199254740992 : Int) ≠ 0 by decide)
  have b1 := Int.emod_lt_of_pos t (show (0 : Int) < 9007199254740992 by decide)
  have a2 := Int.emod_nonneg x0 (show (1099511627776 : Int) ≠ 0 by decide)
  have b2 := Int.emod_lt_of_pos x0 (show (0 : Int) < 1099511627776 by decide)
  have a3 := Int.emod_nonneg x1 (show (9007199254740992 : Int) ≠ 0 by decide)
  have b3 := Int.emod_lt_of_pos x1 (show (0 : Int) < 9007199254740992 by decide)
  generalize burst % 1073741824 = B at *
  generalize t % 9007199254740992 = T at *
  generalize x0 % 1099511627776 = C at *
  generalize x1 % 9007199254740992 = S at *
  have k4 := Lib.hid (fun W => bring_any x2 (1099511627776 - (1 + C) + 1) W (by omega) (by omega))
  have k5 := Lib.hid (fun W => bring_any x3 (9007199254740992 - S) W (by omega) (by omega))
  have a4 := Int.emod_nonneg x2 (show (1099511627776 - (1 + C) + 1 : Int) ≠ 0 by omega)
  have b4 := Int.emod_lt_of_pos x2 (show (0 : Int) < 1099511627776 - (1 + C) + 1 by omega)
  have a5 := Int.emod_nonneg x3 (show (9007199254740992 - S : Int) ≠ 0 by omega)
  have b5 := Int.emod_lt_of_pos x3 (show (0 : Int) < 9007199254740992 - S by omega)
  generalize x2 % (1099511627776 - (1 + C) + 1) = M at *
  generalize x3 % (9007199254740992 - S) = U at *
  have w0 : IntKind.i64.wrap (1 + B) = 1 + B := IntWalk.i64_in _ (by omega)
  have w1 : IntKind.i64.wrap (1 + C) = 1 + C := IntWalk.i64_in _ (by omega)
  have w2 : IntKind.i64.wrap (1099511627776 - (1 + C)) = 1099511627776 - (1 + C) := IntWalk.i64_in _ (by omega)
  have w3 : IntKind.i64.wrap (1099511627776 - (1 + C) + 1) = 1099511627776 - (1 + C) + 1 := IntWalk.i64_in _ (by omega)
  have w4 : IntKind.i64.wrap (1 + C + M) = 1 + C + M := IntWalk.i64_in _ (by omega)
  have w5 : IntKind.i64.wrap (9007199254740992 - S) = 9007199254740992 - S := IntWalk.i64_in _ (by omega)
  have w6 : IntKind.i64.wrap (S + U) = S + U := IntWalk.i64_in _ (by omega)
  have l0 := Lib.hid (fun W => left_any (b := 1 + B) (c := 1 + C) (s := S) (t := T) (by omega) (by omega) ⟨by omega, by omega⟩ ⟨by omega, by omega⟩ ⟨by omega, by omega⟩ W)
  have l1 := Lib.hid (fun W => left_any (b := 1 + B) (c := 1 + C + M) (s := S) (t := T) (by omega) (by omega) ⟨by omega, by omega⟩ ⟨by omega, by omega⟩ ⟨by omega, by omega⟩ W)
  have l2 := Lib.hid (fun W => left_any (b := 1 + B) (c := 1 + C) (s := S + U) (t := T) (by omega) (by omega) ⟨by omega, by omega⟩ ⟨by omega, by omega⟩ ⟨by omega, by omega⟩ W)
  have q1 := more_window (b := 1 + B) (t := T) (c := 1 + C) (d := 1 + C + M) (s := S) (by omega) (by omega)
  have q2 := more_smooth (b := 1 + B) (t := T) (c := 1 + C) (s := S) (r := S + U) (by omega) (by omega) (by omega)
  have hd : 0 < den S := by unfold den; omega
  have hd2 : 0 < den (S + U) := by unfold den; omega
  have n0 : 0 ≤ T * (5 * (1 + C)) / den S := Int.ediv_nonneg (Int.mul_nonneg a1 (by omega)) (by omega)
  have n2 : 0 ≤ T * (5 * (1 + C)) / den (S + U) := Int.ediv_nonneg (Int.mul_nonneg a1 (by omega)) (by omega)
  have p0 : 0 ≤ min (1 + B) (T * (5 * (1 + C)) / den S) := by omega
  have p1 : min (1 + B) (T * (5 * (1 + C)) / den S) ≤ 1 + B := by omega
  have p2 : 0 ≤ min (1 + B) (T * (5 * (1 + C)) / den (S + U)) := by omega
  generalize min (1 + B) (T * (5 * (1 + C)) / den S) = R0 at *
  generalize min (1 + B) (T * (5 * (1 + C + M)) / den S) = R1 at *
  generalize min (1 + B) (T * (5 * (1 + C)) / den (S + U)) = R2 at *
  clear hd hd2 n0 n2 a0 b0 a1 b1 a2 b2 a3 b3 a4 b4 a5 b5
  have z0 : decide (0 ≤ R0) = true := decide_eq_true p0
  have z1 : decide (R0 ≤ R1) = true := decide_eq_true q1
  have z2 : decide (0 ≤ R2) = true := decide_eq_true p2
  have z3 : decide (R2 ≤ R0) = true := decide_eq_true q2
  have z4 : decide (R0 ≤ 1 + B) = true := decide_eq_true p1
  have D : Hid (Bx w [(w.heap.size, 58, #[.int .i64 x0, .int .i64 x1, .int .i64 x2, .int .i64 x3])] (w.alloc (.cells #[.int .i64 x0, .int .i64 x1, .int .i64 x2, .int .i64 x3] 58))) := Lib.hid (Bx.one _ _ _)
  go_enter Try.func6, Try.ntmps6
  go_wp2_with fail
  generalize w.alloc (.cells #[.int .i64 x0, .int .i64 x1, .int .i64 x2, .int .i64 x3] 58) = v0 at *
  generalize w.heap.size = r at *
  refine (k0.out _).mono ?_
  rintro e w' ⟨rfl, rfl⟩
  go_wp2_with fail
  refine (k1.out _).mono ?_
  rintro e w' ⟨rfl, rfl⟩
  have Br := D.out.get 0 rfl
  have cr0 := Br.cell 0
  have cr1 := Br.cell 1
  have cr2 := Br.cell 2
  have cr3 := Br.cell 3
  have tr := Br.lt
  clear Br
  have DN : Hid (∀ n, Bx w [(r, 58, #[.int .i64 x0, .int .i64 x1, .int .i64 x2, .int .i64 x3])] (v0.drewN n)) := Lib.hid (fun n => D.out.on ((Kept.refl _).drewN n))
  go_upto_region 2 with (fail)
  go_quiet ((first | (go_at_call 12; with_reducible exact quiet_same (k2.out _)) | (go_at_call 12; with_reducible exact quiet_same (k3.out _))))
  have D := Lib.hid (DN.out nq)
  clear cr0 cr1 cr2 cr3 tr
  clear DN
  generalize v0.drewN nq = v1 at *
  have Br := D.out.get 0 rfl
  have cr0 := Br.cell 0
  have cr1 := Br.cell 1
  have cr2 := Br.cell 2
  have cr3 := Br.cell 3
  have tr := Br.lt
  clear Br
  have DN : Hid (∀ n, Bx w [(r, 58, #[.int .i64 x0, .int .i64 x1, .int .i64 x2, .int .i64 x3])] (v1.drewN n)) := Lib.hid (fun n => D.out.on ((Kept.refl _).drewN n))
  go_upto_region 3 with (fail)
  go_quiet ((first | (go_at_call 12; with_reducible exact quiet_same (k4.out _)) | (go_at_call 12; with_reducible exact quiet_same (k5.out _))))
  have D := Lib.hid (DN.out nq)
  clear cr0 cr1 cr2 cr3 tr
  clear DN
  generalize v1.drewN nq = v2 at *
  go_wp2_with fail
  refine (l0.out _).mono ?_
  rintro e v3 ⟨rfl, hb⟩
  have D := Lib.hid (D.out.on hb.K)
  clear hb l0
  go_wp2_with fail
  refine (l1.out _).mono ?_
  rintro e v4 ⟨rfl, hb⟩
  have D := Lib.hid (D.out.on hb.K)
  clear hb l1
  go_wp2_with fail
  refine (l2.out _).mono ?_
  rintro e v5 ⟨rfl, hb⟩
  have D := Lib.hid (D.out.on hb.K)
  clear hb l2
  go_wp2_with fail
  refine (works_bx D.out).mono ?_
  rintro e v50 ⟨rfl, hb⟩
  go_wp2_with fail
  go_ret
  exact ⟨rfl, hb.K⟩
end Go.Proofs.Ytbnbhembnefndaa.Law
