/-
  The walks of the laws SatTells and SatTimes of layer 1.
-/
import Derived.Test.YtnafmfkchnjmfaaSatD
namespace Go.Proofs.Ytnafmfkchnjmfaa.Law
open Go.RowKit Sat
set_option linter.unusedSimpArgs false
set_option linter.unusedVariables false

set_option maxHeartbeats 400000 in
theorem rIs_any (n : Int) (w : World) :
    Calls Try.prog 11 #[.int .i64 n] w fun e w' => e = .returned (.bool (isB n)) ∧ w = w' := by
  go_enter Try.func11, Try.ntmps11
  go_wp2
  all_goals
    go_ret
    refine ⟨ret_bool ?_, rfl⟩
    rw [Bool.eq_iff_iff]; simp only [isB, decide_eq_true_eq]
    simp_all <;> omega

set_option maxHeartbeats 400000 in
theorem rNum_any (n : Int) (w : World) :
    Calls Try.prog 13 #[.int .i64 n] w fun e w' => e = .returned (.int .i64 (num n)) ∧ w = w' := by
  go_enter Try.func13, Try.ntmps13
  go_wp2
  go_ret
  exact ⟨ret_int (num_max n), rfl⟩

set_option maxHeartbeats 400000 in
theorem rAdd_any (a b : Int) (w : World) :
    Calls Try.prog 15 #[.int .i64 a, .int .i64 b] w fun e w' => e = .returned (.int .i64 (add a b)) ∧ w = w' := by
  have ha := num_bd a
  have hb := num_bd b
  go_enter Try.func15, Try.ntmps15
  go_wp2_with (go_at_call 13; refine (rNum_any _ _).mono ?_; rintro e w' ⟨rfl, rfl⟩)
  go_ret
  exact ⟨rfl, rfl⟩

set_option maxHeartbeats 400000 in
theorem rIsTime_any (n : Int) (w : World) :
    Calls Try.prog 28 #[.int .i64 n] w fun e w' => e = .returned (.bool (istB n)) ∧ w = w' := by
  go_enter Try.func28, Try.ntmps28
  go_wp2_with (go_at_call 11; refine (rIs_any _ _).mono ?_; rintro e w' ⟨rfl, rfl⟩)
  all_goals
    go_ret
    refine ⟨ret_bool ?_, rfl⟩
    rw [Bool.eq_iff_iff]; simp only [isB, istB, decide_eq_true_eq, true_iff]
    simp_all <;> omega

set_option maxHeartbeats 400000 in
theorem rTime_any (n : Int) (w : World) :
    Calls Try.prog 45 #[.int .i64 n] w fun e w' => e = .returned (.int .i64 (tm n)) ∧ w = w' := by
  cases hb : istB n
  all_goals
    go_enter Try.func45, Try.ntmps45
    go_wp2_with (go_at_call 28; refine (rIsTime_any _ _).mono ?_; rintro e w' ⟨rfl, rfl⟩)
    go_ret
    refine ⟨ret_int ?_, rfl⟩
    simp only [istB, decide_eq_true_eq, decide_eq_false_iff_not] at hb
    unfold tm; split <;> omega

theorem earlier_eq (a b r : Int) (h : (tm a = -1 ∨ (tm b ≠ -1 ∧ tm b < tm a)) → r = tm b) (h' : ¬ (tm a = -1 ∨ (tm b ≠ -1 ∧ tm b < tm a)) → r = tm a) : r = earlier a b := by
  unfold earlier befB
  by_cases hc : tm a = -1 ∨ (tm b ≠ -1 ∧ tm b < tm a)
  · rw [h hc]
    by_cases hb : tm b = -1
    · by_cases ha : tm a = -1
      · simp [ha, hb]
      · omega
    · simp [hb]; intro h1 h2; omega
  · rw [h' hc]; simp; omega

set_option maxHeartbeats 400000 in
theorem rEarlier_any (a b : Int) (w : World) :
    Calls Try.prog 30 #[.int .i64 a, .int .i64 b] w fun e w' => e = .returned (.int .i64 (earlier a b)) ∧ w = w' := by
  have HE := Lib.hid (earlier_eq a b)
  generalize hx : tm a = x at HE
  generalize hy : tm b = y at HE
  cases h1 : (x == -1) <;> cases h2 : (y != -1) <;> cases h3 : decide (y < x)
  all_goals
    go_enter Try.func30, Try.ntmps30
    go_wp2_with (go_at_call 45; refine (rTime_any _ _).mono ?_; rintro e w' ⟨rfl, rfl⟩)
    go_ret
    simp only [beq_eq_false_iff_ne, beq_iff_eq, bne_iff_ne, bne_eq_false_iff_eq, decide_eq_true_eq, decide_eq_false_iff_not] at h1 h2 h3
    exact ⟨ret_int (HE.out _ (fun _ => by omega) (fun _ => by omega)), rfl⟩

theorem later_eq (a b r : Int) (h : (tm a = -1 ∨ tm b = -1) → r = -1) (h' : ¬ (tm a = -1 ∨ tm b = -1) → r = max (tm a) (tm b)) : r = later a b := by
  have ha := tm_bd a
  have hb := tm_bd b
  unfold later befB
  by_cases hc : tm a = -1 ∨ tm b = -1
  · rw [h hc]; simp; split <;> omega
  · rw [h' hc]; simp; split <;> omega

set_option maxHeartbeats 400000 in
theorem rLater_any (a b : Int) (w : World) :
    Calls Try.prog 32 #[.int .i64 a, .int .i64 b] w fun e w' => e = .returned (.int .i64 (later a b)) ∧ w = w' := by
  have HE := Lib.hid (later_eq a b)
  generalize hx : tm a = x at HE
  generalize hy : tm b = y at HE
  cases h1 : (x == -1) <;> cases h2 : (y == -1)
  all_goals
    go_enter Try.func32, Try.ntmps32
    go_wp2_with (go_at_call 45; refine (rTime_any _ _).mono ?_; rintro e w' ⟨rfl, rfl⟩)
    go_ret
    simp only [beq_eq_false_iff_ne, beq_iff_eq] at h1 h2
    exact ⟨ret_int (HE.out _ (fun _ => by omega) (fun _ => by omega)), rfl⟩

set_option maxHeartbeats 400000 in
theorem rEnds_any (t d : Int) (w : World) :
    Calls Try.prog 34 #[.int .i64 t, .int .i64 d] w fun e w' => e = .returned (.int .i64 (ends t d)) ∧ w = w' := by
  have HE : Hid (ends t d = if tm t = -1 then -1 else add t d) := rfl
  generalize hx : tm t = x at HE
  cases h1 : (x == -1)
  all_goals
    go_enter Try.func34, Try.ntmps34
    go_wp2_with (first | (go_at_call 45; refine (rTime_any _ _).mono ?_; rintro e w' ⟨rfl, rfl⟩) | (go_at_call 15; refine (rAdd_any _ _ _).mono ?_; rintro e w' ⟨rfl, rfl⟩))
    go_ret
    simp only [beq_eq_false_iff_ne, beq_iff_eq] at h1
    exact ⟨ret_int (by rw [HE.out]; simp [h1]), rfl⟩

set_option maxHeartbeats 1000000 in
theorem satTells_any (a b : Int) (w : World) :
    Calls Try.prog 4 #[.int .i64 a, .int .i64 b] w fun e w' => e = .returned (.bool true) ∧ Kept w w' := by
  have hK : Kept w w := Kept.refl w
  go_enter Try.func4, Try.ntmps4
  go_wp2_with (first
    | (go_at_call 27; refine (isTime_any _ _).mono ?_; rintro e w' ⟨rfl, rfl⟩)
    | (go_at_call 28; refine (rIsTime_any _ _).mono ?_; rintro e w' ⟨rfl, rfl⟩)
    | (go_at_call 29; refine (earlier_any _ _ _).mono ?_; rintro e w' ⟨rfl, rfl⟩)
    | (go_at_call 30; refine (rEarlier_any _ _ _).mono ?_; rintro e w' ⟨rfl, rfl⟩)
    | (go_at_call 31; refine (later_any _ _ _).mono ?_; rintro e w' ⟨rfl, rfl⟩)
    | (go_at_call 32; refine (rLater_any _ _ _).mono ?_; rintro e w' ⟨rfl, rfl⟩)
    | (go_at_call 33; refine (ends_any _ _ _).mono ?_; rintro e w' ⟨rfl, hk⟩; replace hK := hK.trans hk; clear hk)
    | (go_at_call 34; refine (rEnds_any _ _ _).mono ?_; rintro e w' ⟨rfl, rfl⟩)
    | (go_at_call 26; refine (works_any _).mono ?_; rintro e w' ⟨rfl, hk⟩; replace hK := hK.trans hk; clear hk))
  go_ret
  exact ⟨rfl, hK⟩

theorem satTells_walk (a b : Int) (wa : (Lit.int .i64 a).wf = true) (wb : (Lit.int .i64 b).wf = true) (w : World) :
    Calls Try.prog 4 #[.int .i64 a, .int .i64 b] w fun e w' => e = .returned (.bool true) ∧ Kept w w' := satTells_any a b w

end Go.Proofs.Ytnafmfkchnjmfaa.Law
