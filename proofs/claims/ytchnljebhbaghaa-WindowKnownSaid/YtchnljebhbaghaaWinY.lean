/-
  Contracts of package window's functions: Check, Slow.
-/
import Derived.Test.YtchnljebhbaghaaWinX
namespace Go.Proofs.Ytchnljebhbaghaa.Win
open Go.RowKit WinM Wd
set_option linter.unusedVariables false
set_option linter.unusedSimpArgs false

set_option maxRecDepth 100000 in
theorem check_any (x : Wn) (w : World) : Calls Try.prog 20 #[wnV x] w (Gives (.int .i64 (chk x)) w) := by
  obtain ⟨W, hW, B0, S0, K0⟩ := two_st w x
  have k1 := Lib.hid (bounds_at S0)
  rw [chk_b]
  have k2 := Lib.hid (fun (W : World) (h : St W (w.heap.size + 1) x) (hb : bnd x = true) => within_at h (bnd_of hb).1 (bnd_of hb).2.1 (bnd_of hb).2.2)
  have KH := Lib.hid K0
  have SH := Lib.hid S0
  clear B0 K0 S0
  rcases Bool.eq_false_or_eq_true (bnd x) with hb | hb
  · have k3 := Lib.hid (fun W h => k2.out W h hb)
    rw [hb] at k1 ⊢
    clear k2
    obtain ⟨E, hE⟩ : ∃ E, wth x = E := ⟨_, rfl⟩
    rw [hE] at k3 ⊢
    clear hE hb
    cases E with
    | true =>
      go_enter Try.func20, Try.ntmps20
      go_wp2_with fail
      rw [← hW]
      clear hW
      refine k1.out.mono ?_
      rintro e w1 ⟨rfl, K1⟩
      have k4 := Lib.hid (k3.out w1 (SH.out.kept K1))
      have K2 := Lib.hid (KH.out.trans K1)
      clear K1 KH SH k1 k3
      go_wp2_with fail
      refine k4.out.mono ?_
      rintro e w2 ⟨rfl, K3⟩
      go_wp2_with fail
      go_ret
      exact ⟨rfl, K2.out.trans K3⟩
    | false =>
      go_enter Try.func20, Try.ntmps20
      go_wp2_with fail
      rw [← hW]
      clear hW
      refine k1.out.mono ?_
      rintro e w1 ⟨rfl, K1⟩
      have k4 := Lib.hid (k3.out w1 (SH.out.kept K1))
      have K2 := Lib.hid (KH.out.trans K1)
      clear K1 KH SH k1 k3
      go_wp2_with fail
      refine k4.out.mono ?_
      rintro e w2 ⟨rfl, K3⟩
      go_wp2_with fail
      go_ret
      exact ⟨rfl, K2.out.trans K3⟩
  · rw [hb] at k1 ⊢
    clear k2 hb
    go_enter Try.func20, Try.ntmps20
    go_wp2_with fail
    rw [← hW]
    clear hW
    refine k1.out.mono ?_
    rintro e w1 ⟨rfl, K1⟩
    have K2 := Lib.hid (KH.out.trans K1)
    clear K1 KH SH k1
    go_wp2_with fail
    go_ret
    exact ⟨rfl, K2.out⟩

set_option maxRecDepth 100000 in
theorem slow_any (x : Wn) (w : World) : Calls Try.prog 22 #[wnV x] w (Gives (.bool (slowB x)) w) := by
  obtain ⟨W, hW, B0, S0, K0⟩ := two_st w x
  have k1 := Lib.hid (check_any x W)
  have k2 := Lib.hid (fun (W : World) (h : St W (w.heap.size + 1) x) => isSlow_at h)
  have KH := Lib.hid K0
  have SH := Lib.hid S0
  have BH := Lib.hid B0
  clear B0 K0 S0
  have b0 := BH.out.cell 0
  have b1 := BH.out.cell 1
  have b2 := BH.out.cell 2
  have b3 := BH.out.cell 3
  have b4 := BH.out.cell 4
  have b5 := BH.out.cell 5
  unfold slowB
  by_cases hx : Ok x
  · rw [chk_ok hx] at k1
    rw [decide_eq_true hx, Bool.true_and]
    obtain ⟨E, hE⟩ : ∃ E, decide (x.t = -1 ∨ x.c < x.t) = E := ⟨_, rfl⟩
    rw [hE] at k2 ⊢
    clear hE hx
    go_enter Try.func22, Try.ntmps22
    go_wp2_with fail
    rw [← hW]
    clear hW
    refine k1.out.mono ?_
    rintro e w1 ⟨rfl, K1⟩
    have k4 := Lib.hid (k2.out w1 (SH.out.kept K1))
    have K2 := Lib.hid (KH.out.trans K1)
    clear K1 KH SH BH k1 k2 b0 b1 b2 b3 b4 b5
    go_wp2_with fail
    refine k4.out.mono ?_
    rintro e w2 ⟨rfl, K3⟩
    go_wp2_with fail
    go_ret
    exact ⟨rfl, K2.out.trans K3⟩
  · rw [chk_no hx] at k1
    rw [decide_eq_false hx, Bool.false_and]
    clear hx
    go_enter Try.func22, Try.ntmps22
    go_wp2_with fail
    rw [← hW]
    clear hW
    refine k1.out.mono ?_
    rintro e w1 ⟨rfl, K1⟩
    have K2 := Lib.hid (KH.out.trans K1)
    clear K1 KH SH BH k1 k2 b0 b1 b2 b3 b4 b5
    go_wp2_with fail
    go_ret
    exact ⟨rfl, K2.out⟩
end Go.Proofs.Ytchnljebhbaghaa.Win
