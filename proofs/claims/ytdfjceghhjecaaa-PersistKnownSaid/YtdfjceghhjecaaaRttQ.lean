/-
  Contracts of the document's Check of measured estimates, Sample, Greatest.
-/
import Derived.Test.YtdfjceghhjecaaaRttR
namespace Go.Proofs.Ytdfjceghhjecaaa.Rtt
open Go.RowKit RttM Wd
set_option linter.unusedVariables false
set_option linter.unusedSimpArgs false

set_option maxRecDepth 100000 in
theorem chk_all {l m s v f : Int} (hf : f ≠ -1) {b0 b1 b2 b3 b4 : Bool} (h0 : Hid (decide (tm l) = b0)) (h1 : Hid (decide (tm m) = b1)) (h2 : Hid (decide (tm s) = b2)) (h3 : Hid (decide (tm v) = b3)) (h4 : Hid (decide (tm f) = b4)) :
    chk ⟨l, m, s, v, f⟩ = if (b4 && (b0 && (b1 && (b2 && (b3 && (decide (m ≤ l) && decide (m ≤ s))))))) = true then 0 else 2 := by
  have hn : ¬ isNew ⟨l, m, s, v, f⟩ := fun h => hf h.2.2.2.2.2
  unfold chk
  rw [if_neg hn]
  have e := meas_all h0 h1 h2 h3 h4
  have e2 : (meas ⟨l, m, s, v, f⟩) ↔ (b4 && (b0 && (b1 && (b2 && (b3 && (decide (m ≤ l) && decide (m ≤ s))))))) = true := by
    rw [← decide_eq_true_iff (p := meas ⟨l, m, s, v, f⟩), e]
    cases b0 <;> cases b1 <;> cases b2 <;> cases b3 <;> cases b4 <;> simp
  by_cases hm : meas ⟨l, m, s, v, f⟩
  · rw [if_pos hm, if_pos (e2.1 hm)]
  · rw [if_neg hm, if_neg (fun h => hm (e2.2 h))]

set_option maxRecDepth 100000 in
set_option maxHeartbeats 2000000 in
theorem rcheck_meas {l m s v f : Int} (w : World) (hf : f ≠ -1) : Calls Try.prog 58 #[rtV ⟨l, m, s, v, f⟩] w (Gives (.int .i64 (chk ⟨l, m, s, v, f⟩)) w) := by
  have kw := (Kept.refl w).alloc (.cells (rtA ⟨l, m, s, v, f⟩) 42)
  obtain ⟨b0, h0⟩ : ∃ b, Hid (decide (tm l) = b) := ⟨_, Lib.hid rfl⟩
  obtain ⟨b1, h1⟩ : ∃ b, Hid (decide (tm m) = b) := ⟨_, Lib.hid rfl⟩
  obtain ⟨b2, h2⟩ : ∃ b, Hid (decide (tm s) = b) := ⟨_, Lib.hid rfl⟩
  obtain ⟨b3, h3⟩ : ∃ b, Hid (decide (tm v) = b) := ⟨_, Lib.hid rfl⟩
  obtain ⟨b4, h4⟩ : ∃ b, Hid (decide (tm f) = b) := ⟨_, Lib.hid rfl⟩
  rw [chk_all hf h0 h1 h2 h3 h4]
  have hfb : (f == -1) = false := by simpa using hf
  clear hf
  have key : b4 = false ∨ (b4 = true ∧ b0 = false) ∨ (b4 = true ∧ b0 = true ∧ b1 = false) ∨ (b4 = true ∧ b0 = true ∧ b1 = true ∧ b2 = false) ∨ (b4 = true ∧ b0 = true ∧ b1 = true ∧ b2 = true ∧ b3 = false) ∨ (b4 = true ∧ b0 = true ∧ b1 = true ∧ b2 = true ∧ b3 = true ∧ l < m) ∨ (b4 = true ∧ b0 = true ∧ b1 = true ∧ b2 = true ∧ b3 = true ∧ m ≤ l ∧ s < m) ∨ (b4 = true ∧ b0 = true ∧ b1 = true ∧ b2 = true ∧ b3 = true ∧ m ≤ l ∧ m ≤ s) := by
    by_cases x1 : m ≤ l
    · by_cases x2 : m ≤ s
      · cases b0 <;> cases b1 <;> cases b2 <;> cases b3 <;> cases b4 <;> simp [x1, x2]
      · have x3 : s < m := by omega
        cases b0 <;> cases b1 <;> cases b2 <;> cases b3 <;> cases b4 <;> simp [x1, x3]
    · have x3 : l < m := by omega
      cases b0 <;> cases b1 <;> cases b2 <;> cases b3 <;> cases b4 <;> simp [x3]
  rcases key with rfl | ⟨rfl, rfl⟩ | ⟨rfl, rfl, rfl⟩ | ⟨rfl, rfl, rfl, rfl⟩ | ⟨rfl, rfl, rfl, rfl, rfl⟩ | ⟨rfl, rfl, rfl, rfl, rfl, x1⟩ | ⟨rfl, rfl, rfl, rfl, rfl, x1, x2⟩ | ⟨rfl, rfl, rfl, rfl, rfl, x1, x2⟩
  all_goals
    simp only [Bool.false_and, Bool.true_and, Bool.false_eq_true, if_false]
    try rw [decide_eq_false (by omega : ¬ m ≤ l)]
    try rw [decide_eq_true x1, decide_eq_false (by omega : ¬ m ≤ s)]
    try rw [decide_eq_true x1, decide_eq_true x2]
    try simp only [Bool.and_self, Bool.false_and, Bool.true_and, Bool.and_false, Bool.false_eq_true, if_false, if_true]
    go_enter Try.func58, Try.ntmps58
    go_wp2_with (go_at_call 77; (first | with_reducible refine (rtime_is h4 _).mono ?_ | with_reducible refine (rtime_is h0 _).mono ?_ | with_reducible refine (rtime_is h1 _).mono ?_ | with_reducible refine (rtime_is h2 _).mono ?_ | with_reducible refine (rtime_is h3 _).mono ?_); rintro e w' ⟨rfl, rfl⟩)
    go_ret
    exact ⟨rfl, kw⟩

set_option maxRecDepth 100000 in
theorem rcheck_any (r : Rt) (w : World) : Calls Try.prog 58 #[rtV r] w (Gives (.int .i64 (chk r)) w) := by
  obtain ⟨l, m, s, v, f⟩ := r
  by_cases hf : f = -1
  · exact rcheck_never w hf
  · exact rcheck_meas w hf

end Go.Proofs.Ytdfjceghhjecaaa.Rtt
