/-
  The walk of the law PaceSteady of layer 14.
-/
import Derived.Test.YtbnbhembnefndaaPacE
namespace Go.Proofs.Ytbnbhembnefndaa.Law
open Go.RowKit BucM PacM Wd Bxs Buc Pac
set_option linter.unusedVariables false
set_option linter.unusedSimpArgs false

set_option maxRecDepth 100000 in
set_option maxHeartbeats 4000000 in
theorem paceSteady_any (x0 x1 x2 : Int) (w : World) : Calls Try.prog 7 #[.int .i64 x0, .int .i64 x1, .int .i64 x2] w fun e w' => e = .returned (.bool true) ∧ Kept w w' := by
  have k0 := Lib.hid (fun W => bring_any x0 262144 W (by decide) (by decide))
  have k1 := Lib.hid (fun W => bring_any x1 1099511627776 W (by decide) (by decide))
  have k2 := Lib.hid (fun W => bring_any x2 20 W (by decide) (by decide))
  have a0 := Int.emod_nonneg x0 (show (262144 : Int) ≠ 0 by decide)
  have b0 := Int.emod_lt_of_pos x0 (show (0 : Int) < 262144 by decide)
  have a1 := Int.emod_nonneg x1 (show (1099511627776 : Int) ≠ 0 by decide)
  have b1 := Int.emod_lt_of_pos x1 (show (0 : Int) < 1099511627776 by decide)
  have a2 := Int.emod_nonneg x2 (show (20 : Int) ≠ 0 by decide)
  have b2 := Int.emod_lt_of_pos x2 (show (0 : Int) < 20 by decide)
  generalize x0 % 262144 = C at *
  generalize x1 % 1099511627776 = S at *
  generalize x2 % 20 = K at *
  have w0 : IntKind.i64.wrap (1 + C) = 1 + C := IntWalk.i64_in _ (by omega)
  have w1 : IntKind.i64.wrap (1 + S) = 1 + S := IntWalk.i64_in _ (by omega)
  have w2 : IntKind.i64.wrap (1 + K) = 1 + K := IntWalk.i64_in _ (by omega)
  have m0 : 0 ≤ (1 + S) * (1 + K) := Int.mul_nonneg (by omega) (by omega)
  have m1 : (1 + S) * (1 + K) ≤ 1099511627776 * 20 := Int.mul_le_mul (by omega) (by omega) (by omega) (by omega)
  have w3 : IntKind.i64.wrap ((1 + S) * (1 + K)) = (1 + S) * (1 + K) := IntWalk.i64_in _ (by omega)
  have w4 : IntKind.i64.wrap (5 * (1 + C)) = 5 * (1 + C) := IntWalk.i64_in _ (by omega)
  have m2 : 0 ≤ 5 * (1 + C) * (1 + K) := Int.mul_nonneg (by omega) (by omega)
  have m3 : 5 * (1 + C) * (1 + K) ≤ 1310720 * 20 := Int.mul_le_mul (by omega) (by omega) (by omega) (by omega)
  have w5 : IntKind.i64.wrap (5 * (1 + C) * (1 + K)) = 5 * (1 + C) * (1 + K) := IntWalk.i64_in _ (by omega)
  have l0 := Lib.hid (fun W => left_any (b := 8388608) (c := 1 + C) (s := 1 + S) (t := (1 + S) * (1 + K)) (by omega) (by omega) ⟨by omega, by omega⟩ ⟨by omega, by omega⟩ ⟨by omega, by omega⟩ W)
  rw [steady (c := 1 + C) (s := 1 + S) (k := 1 + K) (by omega) (by omega), show min 8388608 (5 * (1 + C) * (1 + K) / 4) = 5 * (1 + C) * (1 + K) / 4 by omega] at l0
  have ht : (5 * (1 + C) * (1 + K)).tdiv 4 = 5 * (1 + C) * (1 + K) / 4 := Int.tdiv_eq_ediv_of_nonneg m2
  have r0 : 0 ≤ 5 * (1 + C) * (1 + K) / 4 ∧ 5 * (1 + C) * (1 + K) / 4 ≤ 8388608 := by omega
  generalize 5 * (1 + C) * (1 + K) / 4 = V at *
  have w6 : IntKind.i64.wrap V = V := IntWalk.i64_in _ (by omega)
  clear a0 b0 a1 b1 a2 b2 m0 m1 m2 m3 r0
  go_enter Try.func7, Try.ntmps7
  go_wp2_with fail
  refine (k0.out _).mono ?_
  rintro e w' ⟨rfl, rfl⟩
  go_wp2_with fail
  refine (k1.out _).mono ?_
  rintro e w' ⟨rfl, rfl⟩
  go_wp2_with fail
  refine (k2.out _).mono ?_
  rintro e w' ⟨rfl, rfl⟩
  go_wp2_with fail
  refine (l0.out _).mono ?_
  rintro e v1 ⟨rfl, hb⟩
  have D := Lib.hid hb
  clear hb
  go_wp2_with fail
  refine (works_bx D.out).mono ?_
  rintro e v50 ⟨rfl, hb⟩
  go_wp2_with fail
  go_ret
  exact ⟨rfl, hb.K⟩
end Go.Proofs.Ytbnbhembnefndaa.Law
