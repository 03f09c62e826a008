/-
  Contracts of package rtt's functions: isMeasured, Check, both kinds of samples, Sample, New, Held, Greatest.
-/
import Derived.Test.YtilfimlojpejhaaRttW
import Derived.LoopN
namespace Go.Proofs.Ytilfimlojpejhaa.Rtt
open Go.RowKit RttM Wd
set_option linter.unusedVariables false
set_option linter.unusedSimpArgs false

set_option maxRecDepth 100000 in
theorem isTime_is {n : Int} {b : Bool} (h : Hid (decide (tm n) = b)) (w : World) : Calls Try.prog 50 #[.int .i64 n] w (Same (.bool b) w) := h.out ▸ isTime_any n w
set_option maxRecDepth 100000 in
theorem meas_all {l m s v f : Int} {b0 b1 b2 b3 b4 : Bool} (h0 : Hid (decide (tm l) = b0)) (h1 : Hid (decide (tm m) = b1)) (h2 : Hid (decide (tm s) = b2)) (h3 : Hid (decide (tm v) = b3)) (h4 : Hid (decide (tm f) = b4)) :
    decide (meas ⟨l, m, s, v, f⟩) = (b0 && (b1 && (b2 && (b3 && (b4 && (decide (m ≤ l) && decide (m ≤ s))))))) := by
  rw [← h0.out, ← h1.out, ← h2.out, ← h3.out, ← h4.out]
  rw [Bool.eq_iff_iff, decide_eq_true_iff]; simp only [Bool.and_eq_true, decide_eq_true_iff]; exact Iff.rfl

set_option maxRecDepth 100000 in
set_option maxHeartbeats 1000000 in
theorem isMeasured_any (r : Rt) (w : World) : Calls Try.prog 44 #[rtV r] w (GBool (decide (meas r)) w) := by
  have kw := (Kept.refl w).alloc (.cells (rtA r) 25)
  obtain ⟨l, m, s, v, f⟩ := r
  obtain ⟨b0, h0⟩ : ∃ b, Hid (decide (tm l) = b) := ⟨_, Lib.hid rfl⟩
  obtain ⟨b1, h1⟩ : ∃ b, Hid (decide (tm m) = b) := ⟨_, Lib.hid rfl⟩
  obtain ⟨b2, h2⟩ : ∃ b, Hid (decide (tm s) = b) := ⟨_, Lib.hid rfl⟩
  obtain ⟨b3, h3⟩ : ∃ b, Hid (decide (tm v) = b) := ⟨_, Lib.hid rfl⟩
  obtain ⟨b4, h4⟩ : ∃ b, Hid (decide (tm f) = b) := ⟨_, Lib.hid rfl⟩
  rw [meas_all h0 h1 h2 h3 h4]
  have key : b0 = false ∨ (b0 = true ∧ b1 = false) ∨ (b0 = true ∧ b1 = true ∧ b2 = false) ∨ (b0 = true ∧ b1 = true ∧ b2 = true ∧ b3 = false) ∨ (b0 = true ∧ b1 = true ∧ b2 = true ∧ b3 = true ∧ b4 = false) ∨ (b0 = true ∧ b1 = true ∧ b2 = true ∧ b3 = true ∧ b4 = true) := by
    cases b0 <;> cases b1 <;> cases b2 <;> cases b3 <;> cases b4 <;> simp
  have i0 : ∀ w : World, (Instr.index 68 (.agg #[.int .i64 l, .int .i64 m, .int .i64 s, .int .i64 v, .int .i64 f]) (.int .i64 0)).run Try.prog w = .ok (.int .i64 l) w := fun _ => by kernel_rfl
  have i1 : ∀ w : World, (Instr.index 68 (.agg #[.int .i64 l, .int .i64 m, .int .i64 s, .int .i64 v, .int .i64 f]) (.int .i64 1)).run Try.prog w = .ok (.int .i64 m) w := fun _ => by kernel_rfl
  have i2 : ∀ w : World, (Instr.index 68 (.agg #[.int .i64 l, .int .i64 m, .int .i64 s, .int .i64 v, .int .i64 f]) (.int .i64 2)).run Try.prog w = .ok (.int .i64 s) w := fun _ => by kernel_rfl
  have i3 : ∀ w : World, (Instr.index 68 (.agg #[.int .i64 l, .int .i64 m, .int .i64 s, .int .i64 v, .int .i64 f]) (.int .i64 3)).run Try.prog w = .ok (.int .i64 v) w := fun _ => by kernel_rfl
  have i4 : ∀ w : World, (Instr.index 68 (.agg #[.int .i64 l, .int .i64 m, .int .i64 s, .int .i64 v, .int .i64 f]) (.int .i64 4)).run Try.prog w = .ok (.int .i64 f) w := fun _ => by kernel_rfl
  rcases key with rfl | ⟨rfl, rfl⟩ | ⟨rfl, rfl, rfl⟩ | ⟨rfl, rfl, rfl, rfl⟩ | ⟨rfl, rfl, rfl, rfl, rfl⟩ | ⟨rfl, rfl, rfl, rfl, rfl⟩
  all_goals
    go_enter Try.func44, Try.ntmps44
    go_wp2_with fail
    refine wp_loop_rounds 6 ?_
    repeat'
      rw [rounds_succ]
      go_wp2_with (go_at_call 50; (first | with_reducible refine (isTime_is h0 _).mono ?_ | with_reducible refine (isTime_is h1 _).mono ?_ | with_reducible refine (isTime_is h2 _).mono ?_ | with_reducible refine (isTime_is h3 _).mono ?_ | with_reducible refine (isTime_is h4 _).mono ?_); rintro e w' ⟨rfl, rfl⟩)
  · go_ret; exact ⟨rfl, kw⟩
  · go_ret; exact ⟨rfl, kw⟩
  · go_ret; exact ⟨rfl, kw⟩
  · go_ret; exact ⟨rfl, kw⟩
  · go_ret; exact ⟨rfl, kw⟩
  all_goals
    go_ret
    refine ⟨ret_bool ?_, kw⟩
    first | (simp [*]; done) | (simp [*]; omega)

set_option maxRecDepth 100000 in
theorem check_any (r : Rt) (w : World) : Calls Try.prog 32 #[rtV r] w (Gives (.int .i64 (chk r)) w) := by
  have kw := (Kept.refl w).alloc (.cells (rtA r) 25)
  have b0 := Blk.new w 25 (rtA r)
  have r0 := b0.cell 0
  have r1 := b0.cell 1
  have r2 := b0.cell 2
  have r3 := b0.cell 3
  have r4 := b0.cell 4
  obtain ⟨e1, h1⟩ : ∃ b, decide (isNew r) = b := ⟨_, rfl⟩
  obtain ⟨e2, h2⟩ : ∃ b, decide (meas r) = b := ⟨_, rfl⟩
  have hc : Hid (chk r = if e1 = true then 0 else if e2 = true then 0 else 2) := by
    apply Lib.hid
    subst h1; subst h2
    simp [chk]
  have c1 := isNew_any r
  have c2 := isMeasured_any r
  rw [h1] at c1
  rw [h2] at c2
  rw [hc.out]
  clear h1 h2 b0
  cases e1 with
  | true =>
    go_enter Try.func32, Try.ntmps32
    go_wp2_with fail
    refine (c1 _).mono ?_
    rintro e w' ⟨rfl, hk⟩
    go_wp2_with fail
    go_ret
    exact ⟨rfl, kw.trans hk⟩
  | false =>
    cases e2 with
    | true =>
      go_enter Try.func32, Try.ntmps32
      go_wp2_with fail
      refine (c1 _).mono ?_
      rintro e w' ⟨rfl, hk⟩
      have q0 := hk.cell r0
      have q1 := hk.cell r1
      have q2 := hk.cell r2
      have q3 := hk.cell r3
      have q4 := hk.cell r4
      have kw2 := kw.trans hk
      clear r0 r1 r2 r3 r4 kw hk
      go_wp2_with fail
      refine (c2 _).mono ?_
      rintro e w' ⟨rfl, hk⟩
      go_wp2_with fail
      go_ret
      exact ⟨rfl, kw2.trans hk⟩
    | false =>
      go_enter Try.func32, Try.ntmps32
      go_wp2_with fail
      refine (c1 _).mono ?_
      rintro e w' ⟨rfl, hk⟩
      have q0 := hk.cell r0
      have q1 := hk.cell r1
      have q2 := hk.cell r2
      have q3 := hk.cell r3
      have q4 := hk.cell r4
      have kw2 := kw.trans hk
      clear r0 r1 r2 r3 r4 kw hk
      go_wp2_with fail
      refine (c2 _).mono ?_
      rintro e w' ⟨rfl, hk⟩
      go_wp2_with fail
      go_ret
      exact ⟨rfl, kw2.trans hk⟩

abbrev smV (x y z : Int) : Value := .agg #[.int .i64 x, .int .i64 y, .int .i64 z]
end Go.Proofs.Ytilfimlojpejhaa.Rtt
