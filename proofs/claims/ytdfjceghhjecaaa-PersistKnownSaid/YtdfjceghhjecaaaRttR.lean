/-
  Contracts of the document's own answers of layer 7: time, New, Check, Sample, brought, Held, Greatest.
-/
import Derived.Test.YtdfjceghhjecaaaRttS
namespace Go.Proofs.Ytdfjceghhjecaaa.Rtt
open Go.RowKit RttM Wd
set_option linter.unusedVariables false
set_option linter.unusedSimpArgs false

set_option maxRecDepth 100000 in
theorem time_any (n : Int) (w : World) : Calls Try.prog 77 #[.int .i64 n] w (Same (.bool (decide (tm n))) w) := by
  by_cases h0 : 0 ≤ n
  · by_cases h1 : n ≤ 9007199254740991
    · rw [decide_eq_true (show tm n from ⟨h0, h1⟩)]
      go_enter Try.func77, Try.ntmps77
      go_wp2
      go_ret
      exact ⟨rfl, rfl⟩
    · rw [decide_eq_false (fun h : tm n => h1 h.2)]
      go_enter Try.func77, Try.ntmps77
      go_wp2
      go_ret
      exact ⟨rfl, rfl⟩
  · rw [decide_eq_false (fun h : tm n => h0 h.1)]
    go_enter Try.func77, Try.ntmps77
    go_wp2
    go_ret
    exact ⟨rfl, rfl⟩
set_option maxRecDepth 100000 in
theorem rtime_is {n : Int} {b : Bool} (h : Hid (decide (tm n) = b)) (w : World) : Calls Try.prog 77 #[.int .i64 n] w (Same (.bool b) w) := h.out ▸ time_any n w
set_option maxRecDepth 100000 in
/-- The document's Check of a new estimate's fields. -/
theorem rcheck_never {l m s v f : Int} (w : World) (hf : f = -1) : Calls Try.prog 58 #[rtV ⟨l, m, s, v, f⟩] w (Gives (.int .i64 (chk ⟨l, m, s, v, f⟩)) w) := by
  subst hf
  have hnm : ¬ meas ⟨l, m, s, v, -1⟩ := by rintro ⟨_, _, _, _, ⟨h, _⟩, _⟩; simp only at h; omega
  have kw := (Kept.refl w).alloc (.cells (rtA ⟨l, m, s, v, -1⟩) 42)
  by_cases hn : isNew ⟨l, m, s, v, -1⟩
  · rw [chk_new hn]
    obtain ⟨h1, h2, h3, h4, h5, _⟩ := hn
    simp only at h1 h2 h3 h4 h5
    subst h3; subst h4
    have e2 : s.tdiv 2 = v := by rw [h5]; exact Int.tdiv_eq_ediv_of_nonneg (by omega)
    have e3 : IntKind.i64.wrap v = v := IntWalk.i64_in _ (by omega)
    clear h5 hnm
    go_enter Try.func58, Try.ntmps58
    go_wp2_with fail
    go_ret
    exact ⟨rfl, kw⟩
  · rw [chk_none hn hnm]
    clear hnm
    have key : l ≠ 0 ∨ (l = 0 ∧ m ≠ 0) ∨ (l = 0 ∧ m = 0 ∧ s < 1000000) ∨ (l = 0 ∧ m = 0 ∧ ¬ s < 1000000 ∧ 60000000000 < s) ∨ (l = 0 ∧ m = 0 ∧ ¬ s < 1000000 ∧ ¬ 60000000000 < s ∧ v ≠ s / 2) := by
      by_cases h1 : l = 0
      · by_cases h2 : m = 0
        · by_cases h3 : s < 1000000
          · exact .inr (.inr (.inl ⟨h1, h2, h3⟩))
          · by_cases h4 : 60000000000 < s
            · exact .inr (.inr (.inr (.inl ⟨h1, h2, h3, h4⟩)))
            · exact .inr (.inr (.inr (.inr ⟨h1, h2, h3, h4, fun h5 => hn ⟨by show 1000000 ≤ s; omega, by show s ≤ 60000000000; omega, h1, h2, h5, rfl⟩⟩)))
        · exact .inr (.inl ⟨h1, h2⟩)
      · exact .inl h1
    clear hn
    rcases key with h1 | ⟨rfl, h1⟩ | ⟨rfl, rfl, h1⟩ | ⟨rfl, rfl, h1, h2⟩ | ⟨rfl, rfl, h1, h2, h3⟩
    · have b1 : (l == 0) = false := by simpa using h1
      go_enter Try.func58, Try.ntmps58
      go_wp2_with fail
      go_ret
      exact ⟨rfl, kw⟩
    · have b1 : (m == 0) = false := by simpa using h1
      go_enter Try.func58, Try.ntmps58
      go_wp2_with fail
      go_ret
      exact ⟨rfl, kw⟩
    · go_enter Try.func58, Try.ntmps58
      go_wp2_with fail
      go_ret
      exact ⟨rfl, kw⟩
    · go_enter Try.func58, Try.ntmps58
      go_wp2_with fail
      go_ret
      exact ⟨rfl, kw⟩
    · obtain ⟨n, hn⟩ : ∃ n, s / 2 = n := ⟨_, rfl⟩
      have e2 : s.tdiv 2 = n := by rw [← hn]; exact Int.tdiv_eq_ediv_of_nonneg (by omega)
      have e3 : IntKind.i64.wrap n = n := IntWalk.i64_in _ (by omega)
      rw [hn] at h3
      have b1 : (v == n) = false := by simpa using h3
      clear hn h3
      go_enter Try.func58, Try.ntmps58
      go_wp2_with fail
      go_ret
      exact ⟨rfl, kw⟩
end Go.Proofs.Ytdfjceghhjecaaa.Rtt
