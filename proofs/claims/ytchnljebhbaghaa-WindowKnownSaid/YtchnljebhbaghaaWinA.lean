/-
  Contract of package window's Acked: all.
-/
import Derived.Test.YtchnljebhbaghaaWinA1
import Derived.Test.YtchnljebhbaghaaWinA2
import Derived.Test.YtchnljebhbaghaaWinA3
namespace Go.Proofs.Ytchnljebhbaghaa.Win
open Go.RowKit WinM Wd
set_option linter.unusedVariables false
set_option linter.unusedSimpArgs false

set_option maxRecDepth 100000 in
theorem acked_arg (x : Wn) (q : Pk) (f : Bool) (w : World) (hx : ¬ Ok x) : Calls Try.prog 12 #[wnV x, pkV q, .bool f] w (Gives (.tuple #[wnV zero, .int .i64 2]) w) := by
  obtain ⟨W, hW, B0, P0, Z0, K0⟩ := three_box w x q
  have k1 := Lib.hid (check_any x W)
  have BH := Lib.hid B0
  have PH := Lib.hid P0
  have ZH := Lib.hid Z0
  have KH := Lib.hid K0
  have b0 := BH.out.cell 0
  have b1 := BH.out.cell 1
  have b2 := BH.out.cell 2
  have b3 := BH.out.cell 3
  have b4 := BH.out.cell 4
  have b5 := BH.out.cell 5
  clear B0 P0 Z0 K0
  rw [chk_no hx] at k1
  clear hx
  go_enter Try.func12, Try.ntmps12
  go_wp2_with fail
  rw [← hW]
  clear hW
  refine k1.out.mono ?_
  rintro e w1 ⟨rfl, K1⟩
  have B1 := Lib.hid (BH.out.kept K1)
  have P1 := Lib.hid (PH.out.kept K1)
  have Z1 := Lib.hid (ZH.out.kept K1)
  have K2 := Lib.hid (KH.out.trans K1)
  have g1 := P1.out.cell 1
  have g2 := P1.out.cell 2
  clear b0 b1 b2 b3 b4 b5 K1 BH ZH KH PH
  have d0 := Z1.out.cell 0
  have d1 := Z1.out.cell 1
  have d2 := Z1.out.cell 2
  have d3 := Z1.out.cell 3
  have d4 := Z1.out.cell 4
  have d5 := Z1.out.cell 5
  have df0 := Z1.out.frozen 0
  have df1 := Z1.out.frozen 1
  have df2 := Z1.out.frozen 2
  have df3 := Z1.out.frozen 3
  have df4 := Z1.out.frozen 4
  have df5 := Z1.out.frozen 5
  go_wp2_with fail
  refine bodyPost_ret (v := .tuple #[wnV zero, .int .i64 2]) ?_ rfl ⟨rfl, ?_⟩
  · simp [results, Try.f12, go_sem, d0, d1, d2, d3, d4, d5, zero]
  · exact kept_six K2.out (by omega) _ _ _ _ _ _

set_option maxRecDepth 100000 in
theorem acked_rng (x : Wn) (q : Pk) (f : Bool) (w : World) (hx : Ok x) (ht : ¬ (tm q.t ∧ 1 ≤ q.z ∧ q.z ≤ 65535)) : Calls Try.prog 12 #[wnV x, pkV q, .bool f] w (Gives (.tuple #[wnV zero, .int .i64 9]) w) := by
  obtain ⟨W, hW, B0, P0, Z0, K0⟩ := three_box w x q
  have k1 := Lib.hid (check_any x W)
  have BH := Lib.hid B0
  have PH := Lib.hid P0
  have ZH := Lib.hid Z0
  have KH := Lib.hid K0
  have b0 := BH.out.cell 0
  have b1 := BH.out.cell 1
  have b2 := BH.out.cell 2
  have b3 := BH.out.cell 3
  have b4 := BH.out.cell 4
  have b5 := BH.out.cell 5
  clear B0 P0 Z0 K0
  rw [chk_ok hx] at k1
  have c1 := Lib.hid (isTime_any q.t)
  obtain ⟨A, hA⟩ : ∃ A, decide (tm q.t) = A := ⟨_, rfl⟩
  obtain ⟨B, hB⟩ : ∃ B, decide (q.z < 1) = B := ⟨_, rfl⟩
  obtain ⟨C, hC⟩ : ∃ C, decide (65535 < q.z) = C := ⟨_, rfl⟩
  have hn : A = true → B = false → C = false → False := by
    rintro rfl rfl rfl
    have e1 := of_decide_eq_true hA
    have e2 := of_decide_eq_false hB
    have e3 := of_decide_eq_false hC
    exact ht ⟨e1, by omega, by omega⟩
  rw [hA] at c1
  clear hA ht hx
  cases A <;> cases B <;> cases C <;> first | (exact (hn rfl rfl rfl).elim) | skip
  all_goals
    clear hn
    go_enter Try.func12, Try.ntmps12
    go_wp2_with fail
    rw [← hW]
    clear hW
    refine k1.out.mono ?_
    rintro e w1 ⟨rfl, K1⟩
    have B1 := Lib.hid (BH.out.kept K1)
    have P1 := Lib.hid (PH.out.kept K1)
    have Z1 := Lib.hid (ZH.out.kept K1)
    have K2 := Lib.hid (KH.out.trans K1)
    have g1 := P1.out.cell 1
    have g2 := P1.out.cell 2
    clear b0 b1 b2 b3 b4 b5 K1 BH ZH KH PH
    have d0 := Z1.out.cell 0
    have d1 := Z1.out.cell 1
    have d2 := Z1.out.cell 2
    have d3 := Z1.out.cell 3
    have d4 := Z1.out.cell 4
    have d5 := Z1.out.cell 5
    have df0 := Z1.out.frozen 0
    have df1 := Z1.out.frozen 1
    have df2 := Z1.out.frozen 2
    have df3 := Z1.out.frozen 3
    have df4 := Z1.out.frozen 4
    have df5 := Z1.out.frozen 5
    go_wp2_with (go_at_call 29; refine (c1.out _).mono ?_; rintro e w' ⟨rfl, rfl⟩)
    refine bodyPost_ret (v := .tuple #[wnV zero, .int .i64 9]) ?_ rfl ⟨rfl, ?_⟩
    · simp [results, Try.f12, go_sem, d0, d1, d2, d3, d4, d5, zero]
    · exact kept_six K2.out (by omega) _ _ _ _ _ _

theorem acked_any (x : Wn) (q : Pk) (f : Bool) (w : World) : Calls Try.prog 12 #[wnV x, pkV q, .bool f] w (Gives (.tuple #[wnV (ackW x q.t q.z f), .int .i64 (ackE x q.t q.z)]) w) := by
  by_cases hx : Ok x
  · by_cases ht : tm q.t ∧ 1 ≤ q.z ∧ q.z ≤ 65535
    · rw [ackE_ok hx ht.1 ht.2.1 ht.2.2]
      by_cases hs : x.t = -1 ∨ x.c < x.t <;> cases f
      · exact acked_slow0 x q w hx ht.1 ht.2.1 ht.2.2 hs
      · exact acked_slow x q w hx ht.1 ht.2.1 ht.2.2 hs
      · exact acked_past0 x q w hx ht.1 ht.2.1 ht.2.2 hs
      · exact acked_past x q w hx ht.1 ht.2.1 ht.2.2 hs
    · rw [show ackE x q.t q.z = 9 from ackE_rng hx ht, show ackW x q.t q.z f = zero by unfold ackW; rw [ackE_rng hx ht]; rfl]
      exact acked_rng x q f w hx ht
  · rw [show ackE x q.t q.z = 2 from ackE_arg hx, show ackW x q.t q.z f = zero by unfold ackW; rw [ackE_arg hx]; rfl]
    exact acked_arg x q f w hx
end Go.Proofs.Ytchnljebhbaghaa.Win
