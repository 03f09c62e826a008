/-
  The document's own: time, behind, Check, Slow.
-/
import Derived.Test.YtchnljebhbaghaaWinW
namespace Go.Proofs.Ytchnljebhbaghaa.Win
open Go.RowKit WinM Wd
set_option linter.unusedVariables false
set_option linter.unusedSimpArgs false

theorem rtime_any (n : Int) (w : World) : Calls Try.prog 35 #[.int .i64 n] w (Same (.bool (decide (tm n))) w) := by
  have e : decide (tm n) = (decide (0 ≤ n) && decide (n ≤ 9007199254740991)) := by
    rw [Bool.eq_iff_iff, Bool.and_eq_true]
    simp only [decide_eq_true_iff]
    exact Iff.rfl
  rw [e]
  clear e
  go_enter Try.func35, Try.ntmps35
  go_wp2
  all_goals
    go_ret
    exact ⟨ret_bool (by rw [Bool.eq_iff_iff]; simp <;> omega), rfl⟩
theorem rbehind_any (x : Wn) (a : Int) (w : World) : Calls Try.prog 36 #[wnV x, .int .i64 a] w (Gives (.bool (behindB x a)) w) := by
  obtain ⟨E, hE⟩ : ∃ E, behindB x a = E := ⟨_, rfl⟩
  rw [hE]
  unfold behindB at hE
  obtain ⟨W, hW, B0, K0⟩ : ∃ W, W = w.alloc (.cells (wnA x) 23) ∧ Blk W w.heap.size 23 (wnA x) ∧ Kept w W := ⟨_, rfl, Blk.new _ _ _, (Kept.refl w).alloc _⟩
  have r4 := B0.cell 4
  rw [hW] at r4
  have K1 : Kept w (w.alloc (.cells (wnA x) 23)) := (Kept.refl w).alloc _
  clear hW K0 B0
  go_enter Try.func36, Try.ntmps36
  go_wp2_with fail
  all_goals
    go_ret
    exact ⟨ret_bool (by rw [← hE, Bool.eq_iff_iff]; simp <;> omega), (Kept.refl w).alloc _⟩
set_option maxRecDepth 100000 in
set_option maxHeartbeats 1000000 in
theorem rcheck_any (x : Wn) (w : World) : Calls Try.prog 21 #[wnV x] w (Gives (.int .i64 (chk x)) w) := by
  obtain ⟨C, hC⟩ : ∃ E, chk x = E := ⟨_, rfl⟩
  rw [hC]
  have h2 : ¬ Ok x → C = 2 := fun h => by rw [← hC, chk_no h]
  have h0 : Ok x → C = 0 := fun h => by rw [← hC, chk_ok h]
  clear hC
  obtain ⟨S, hS⟩ : ∃ S, decide (tm x.s) = S := ⟨_, rfl⟩
  have c1 := rtime_any x.s
  rw [hS] at c1
  have hS1 : Hid (S = true ↔ (0 ≤ x.s ∧ x.s ≤ 9007199254740991)) := Lib.hid (by rw [← hS, decide_eq_true_iff]; rfl)
  clear hS
  have H2 := Lib.hid h2
  have H0 := Lib.hid h0
  clear h2 h0
  cases S
  all_goals
    go_enter Try.func21, Try.ntmps21
    go_wp2_with (go_at_call 35; refine (c1 _).mono ?_; rintro e w' ⟨rfl, rfl⟩)
    all_goals
      go_ret
      refine ⟨ret_int ?_, (Kept.refl w).alloc _⟩
      have hS2 := hS1.out
      have h2 := H2.out
      have h0 := H0.out
      first
        | (refine (h2 (fun h => ?_)).symm; have k1 := h.d0; have k2 := h.d1; have k3 := h.m0; have k4 := h.m1; have k5 := h.c0; have k6 := h.c1; have k7 := h.t; have k8 := h.s; have k9 := h.g0; have k10 := h.g1; unfold tm at k8; clear h h0 h2; simp at hS2; omega)
        | (refine (h0 ⟨by omega, by omega, by omega, by omega, by omega, by omega, by omega, ?_, by omega, by omega⟩).symm; unfold tm; simp at hS2; omega)
end Go.Proofs.Ytchnljebhbaghaa.Win
