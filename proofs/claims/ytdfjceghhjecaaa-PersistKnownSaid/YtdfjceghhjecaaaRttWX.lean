/-
  Words for estimates in memory; contracts of package rtt's functions.
-/
import Derived.Test.YtdfjceghhjecaaaRttM
import Derived.Laws.StructEq
import Derived.Deep.RegionWith
import Derived.LoopN
namespace Go.Proofs.Ytdfjceghhjecaaa.Rtt
open Go.RowKit RttM Wd
set_option linter.unusedVariables false
set_option linter.unusedSimpArgs false

abbrev rtV (r : Rt) : Value := .agg #[.int .i64 r.l, .int .i64 r.m, .int .i64 r.s, .int .i64 r.v, .int .i64 r.f]
abbrev rtA (r : Rt) : Array Value := #[.int .i64 r.l, .int .i64 r.m, .int .i64 r.s, .int .i64 r.v, .int .i64 r.f]
/-- What a call hands back; nothing that was there has turned. -/
def Gives (v : Value) (w : World) (e : Ending) (w' : World) : Prop := e = .returned v ∧ Kept w w'
def GBool (b : Bool) (w : World) (e : Ending) (w' : World) : Prop := e = .returned (.bool b) ∧ Kept w w'
def Same (v : Value) (w : World) (e : Ending) (w' : World) : Prop := e = .returned v ∧ w = w'

set_option maxRecDepth 100000 in
theorem eql_rt (x y : Rt) (w : World) : (binOp .eql 42 (rtV x) (rtV y)).run Try.prog w = .ok (.bool (decide (x = y))) w := by
  have u3 := Try.underlying3
  have a3 := Try.isAgg3
  have z3 := Try.sizeOf3
  have hS : Try.prog.underlying 42 = some (.struct (Try.prog.fieldsOf 42)) := by kernel_rfl
  have hp : Try.prog.stoodInHeld 42 = false := by kernel_rfl
  rw [run_eql_struct, show (10000 : Nat) = 9999 + 1 from rfl, run_equalIn_agg w 9999 _ _ _ hS hp]
  simp only [Program.fieldsOf, Try.underlying42]
  go_simp
  by_cases h : x = y
  · subst h; simp
  · rw [decide_eq_false h]
    (repeat' split) <;> first | rfl | exact absurd (Rt.ext' (by assumption) (by assumption) (by assumption) (by assumption) (by assumption)) h
set_option maxRecDepth 100000 in
theorem neq_rt (x y : Rt) (w : World) : (binOp .neq 42 (rtV x) (rtV y)).run Try.prog w = .ok (.bool (!decide (x = y))) w := by
  have u3 := Try.underlying3
  have a3 := Try.isAgg3
  have z3 := Try.sizeOf3
  have hS : Try.prog.underlying 42 = some (.struct (Try.prog.fieldsOf 42)) := by kernel_rfl
  have hp : Try.prog.stoodInHeld 42 = false := by kernel_rfl
  rw [run_neq_struct, show (10000 : Nat) = 9999 + 1 from rfl, run_equalIn_agg w 9999 _ _ _ hS hp]
  simp only [Program.fieldsOf, Try.underlying42]
  go_simp
  by_cases h : x = y
  · subst h; simp
  · rw [decide_eq_false h]
    (repeat' split) <;> first | rfl | exact absurd (Rt.ext' (by assumption) (by assumption) (by assumption) (by assumption) (by assumption)) h
set_option maxRecDepth 100000 in
theorem guard_rt : Try.prog.eqGuardType Try.prog.depth 42 = false := by kernel_rfl

set_option maxRecDepth 100000 in
theorem clamp_any (n : Int) (w : World) : Calls Try.prog 81 #[.int .i64 n] w (Same (.int .i64 (clip n)) w) := by
  go_enter Try.func81, Try.ntmps81
  go_wp2
  all_goals
    go_ret
    exact ⟨ret_int (by first | rw [clip_lo (by omega)] | rw [clip_hi (by omega)] | rw [clip_id ⟨by omega, by omega⟩]), rfl⟩
set_option maxRecDepth 100000 in
theorem isTime_any (n : Int) (w : World) : Calls Try.prog 69 #[.int .i64 n] w (Same (.bool (decide (tm n))) w) := by
  rw [tm_clip]
  go_enter Try.func69, Try.ntmps69
  go_wp2_with (go_at_call 81; refine (clamp_any _ _).mono ?_; rintro e w' ⟨rfl, rfl⟩)
  go_ret
  exact ⟨rfl, rfl⟩
set_option maxRecDepth 100000 in
theorem assumed_any (a : Int) (w : World) (h0 : 0 ≤ a) (h1 : a ≤ 60000000000) : Calls Try.prog 68 #[.int .i64 a] w (Gives (rtV (fresh a)) w) := by
  have h2 : a.tdiv 2 = a / 2 := Int.tdiv_eq_ediv_of_nonneg h0
  have h3 : IntKind.i64.wrap (a / 2) = a / 2 := IntWalk.i64_in _ (by omega)
  go_enter Try.func68, Try.ntmps68
  go_wp2
  refine bodyPost_ret (v := rtV (fresh a)) ?_ rfl ⟨rfl, ?_⟩
  · simp [results, Try.f68, go_sem, fresh]
  · (repeat' first | exact Kept.refl _ | apply Kept.alloc | refine Kept.setCell ?_ (Nat.le_refl _) _)

set_option maxRecDepth 100000 in
set_option maxHeartbeats 400000 in
theorem isNew_any (r : Rt) (w : World) : Calls Try.prog 49 #[rtV r] w (GBool (decide (isNew r)) w) := by
  have hg := guard_rt
  have heq := eql_rt r (fresh r.s)
  have hb : decide (isNew r) = (decide (1000000 ≤ r.s) && (decide (r.s ≤ 60000000000) && decide (r = fresh r.s))) := by
    rw [Bool.eq_iff_iff, Bool.and_eq_true, Bool.and_eq_true, decide_eq_true_iff, decide_eq_true_iff, decide_eq_true_iff, decide_eq_true_iff]
    constructor
    · intro h; exact ⟨h.1, h.2.1, isNew_fresh h⟩
    · rintro ⟨h1, h2, h3⟩; rw [h3]; exact fresh_new h1 h2
  rw [hb]
  clear hb
  have b0 := Blk.new w 42 (rtA r)
  have kw := (Kept.refl w).alloc (.cells (rtA r) 42)
  have r0 := b0.cell 0
  have r1 := b0.cell 1
  have r2 := b0.cell 2
  have r3 := b0.cell 3
  have r4 := b0.cell 4
  obtain ⟨E, hE⟩ : ∃ E, decide (r = fresh r.s) = E := ⟨_, rfl⟩
  rw [hE] at heq ⊢
  obtain ⟨l, m, s, v, f⟩ := r
  simp only at *
  clear hE
  by_cases h1 : 1000000 ≤ s
  · by_cases h2 : s ≤ 60000000000
    · have d1 : decide (1000000 ≤ s) = true := decide_eq_true h1
      have d2 : decide (s ≤ 60000000000) = true := decide_eq_true h2
      rw [d1, d2]
      go_enter Try.func49, Try.ntmps49
      go_wp2_with fail
      go_region_with (go_at_call 68; refine (assumed_any _ _ (by omega) (by omega)).mono ?_; rintro e w' ⟨rfl, hk⟩; have q0 := hk.cell r0; have q1 := hk.cell r1; have q2 := hk.cell r2; have q3 := hk.cell r3; have q4 := hk.cell r4; have hk2 := kw.drew.trans hk)
      all_goals
        go_wp2_with fail
        go_ret
        exact ⟨rfl, by assumption⟩
    · have d1 : decide (1000000 ≤ s) = true := decide_eq_true h1
      have d2 : decide (s ≤ 60000000000) = false := decide_eq_false h2
      rw [d1, d2]
      go_enter Try.func49, Try.ntmps49
      go_wp2_with fail
      go_quiet (fail)
      go_wp2_with fail
      go_ret
      exact ⟨rfl, kw.drewN _⟩
  · have d1 : decide (1000000 ≤ s) = false := decide_eq_false h1
    rw [d1]
    go_enter Try.func49, Try.ntmps49
    go_wp2_with fail
    go_quiet (fail)
    go_wp2_with fail
    go_ret
    exact ⟨rfl, kw.drewN _⟩

end Go.Proofs.Ytdfjceghhjecaaa.Rtt

/-
  Contracts of package rtt's functions: isMeasured, Check, both kinds of samples, Sample, New, Held, Greatest.
-/
namespace Go.Proofs.Ytdfjceghhjecaaa.Rtt
open Go.RowKit RttM Wd
set_option linter.unusedVariables false
set_option linter.unusedSimpArgs false

set_option maxRecDepth 100000 in
theorem isTime_is {n : Int} {b : Bool} (h : Hid (decide (tm n) = b)) (w : World) : Calls Try.prog 69 #[.int .i64 n] w (Same (.bool b) w) := h.out ▸ isTime_any n w
set_option maxRecDepth 100000 in
theorem meas_all {l m s v f : Int} {b0 b1 b2 b3 b4 : Bool} (h0 : Hid (decide (tm l) = b0)) (h1 : Hid (decide (tm m) = b1)) (h2 : Hid (decide (tm s) = b2)) (h3 : Hid (decide (tm v) = b3)) (h4 : Hid (decide (tm f) = b4)) :
    decide (meas ⟨l, m, s, v, f⟩) = (b0 && (b1 && (b2 && (b3 && (b4 && (decide (m ≤ l) && decide (m ≤ s))))))) := by
  rw [← h0.out, ← h1.out, ← h2.out, ← h3.out, ← h4.out]
  rw [Bool.eq_iff_iff, decide_eq_true_iff]; simp only [Bool.and_eq_true, decide_eq_true_iff]; exact Iff.rfl

set_option maxRecDepth 100000 in
set_option maxHeartbeats 1000000 in
theorem isMeasured_any (r : Rt) (w : World) : Calls Try.prog 50 #[rtV r] w (GBool (decide (meas r)) w) := by
  have kw := (Kept.refl w).alloc (.cells (rtA r) 42)
  obtain ⟨l, m, s, v, f⟩ := r
  obtain ⟨b0, h0⟩ : ∃ b, Hid (decide (tm l) = b) := ⟨_, Lib.hid rfl⟩
  obtain ⟨b1, h1⟩ : ∃ b, Hid (decide (tm m) = b) := ⟨_, Lib.hid rfl⟩
  obtain ⟨b2, h2⟩ : ∃ b, Hid (decide (tm s) = b) := ⟨_, Lib.hid rfl⟩
  obtain ⟨b3, h3⟩ : ∃ b, Hid (decide (tm v) = b) := ⟨_, Lib.hid rfl⟩
  obtain ⟨b4, h4⟩ : ∃ b, Hid (decide (tm f) = b) := ⟨_, Lib.hid rfl⟩
  rw [meas_all h0 h1 h2 h3 h4]
  have key : b0 = false ∨ (b0 = true ∧ b1 = false) ∨ (b0 = true ∧ b1 = true ∧ b2 = false) ∨ (b0 = true ∧ b1 = true ∧ b2 = true ∧ b3 = false) ∨ (b0 = true ∧ b1 = true ∧ b2 = true ∧ b3 = true ∧ b4 = false) ∨ (b0 = true ∧ b1 = true ∧ b2 = true ∧ b3 = true ∧ b4 = true) := by
    cases b0 <;> cases b1 <;> cases b2 <;> cases b3 <;> cases b4 <;> simp
  have i0 : ∀ w : World, (Instr.index 100 (.agg #[.int .i64 l, .int .i64 m, .int .i64 s, .int .i64 v, .int .i64 f]) (.int .i64 0)).run Try.prog w = .ok (.int .i64 l) w := fun _ => by kernel_rfl
  have i1 : ∀ w : World, (Instr.index 100 (.agg #[.int .i64 l, .int .i64 m, .int .i64 s, .int .i64 v, .int .i64 f]) (.int .i64 1)).run Try.prog w = .ok (.int .i64 m) w := fun _ => by kernel_rfl
  have i2 : ∀ w : World, (Instr.index 100 (.agg #[.int .i64 l, .int .i64 m, .int .i64 s, .int .i64 v, .int .i64 f]) (.int .i64 2)).run Try.prog w = .ok (.int .i64 s) w := fun _ => by kernel_rfl
  have i3 : ∀ w : World, (Instr.index 100 (.agg #[.int .i64 l, .int .i64 m, .int .i64 s, .int .i64 v, .int .i64 f]) (.int .i64 3)).run Try.prog w = .ok (.int .i64 v) w := fun _ => by kernel_rfl
  have i4 : ∀ w : World, (Instr.index 100 (.agg #[.int .i64 l, .int .i64 m, .int .i64 s, .int .i64 v, .int .i64 f]) (.int .i64 4)).run Try.prog w = .ok (.int .i64 f) w := fun _ => by kernel_rfl
  rcases key with rfl | ⟨rfl, rfl⟩ | ⟨rfl, rfl, rfl⟩ | ⟨rfl, rfl, rfl, rfl⟩ | ⟨rfl, rfl, rfl, rfl, rfl⟩ | ⟨rfl, rfl, rfl, rfl, rfl⟩
  all_goals
    go_enter Try.func50, Try.ntmps50
    go_wp2_with fail
    refine wp_loop_rounds 6 ?_
    repeat'
      rw [rounds_succ]
      go_wp2_with (go_at_call 69; (first | with_reducible refine (isTime_is h0 _).mono ?_ | with_reducible refine (isTime_is h1 _).mono ?_ | with_reducible refine (isTime_is h2 _).mono ?_ | with_reducible refine (isTime_is h3 _).mono ?_ | with_reducible refine (isTime_is h4 _).mono ?_); rintro e w' ⟨rfl, rfl⟩)
  · go_ret; exact ⟨rfl, kw⟩
  · go_ret; exact ⟨rfl, kw⟩
  · go_ret; exact ⟨rfl, kw⟩
  · go_ret; exact ⟨rfl, kw⟩
  · go_ret; exact ⟨rfl, kw⟩
  all_goals
    go_ret
    refine ⟨ret_bool ?_, kw⟩
    first | (simp [*]; done) | (simp [*]; omega)

set_option maxRecDepth 100000 in
theorem check_any (r : Rt) (w : World) : Calls Try.prog 29 #[rtV r] w (Gives (.int .i64 (chk r)) w) := by
  have kw := (Kept.refl w).alloc (.cells (rtA r) 42)
  have b0 := Blk.new w 42 (rtA r)
  have r0 := b0.cell 0
  have r1 := b0.cell 1
  have r2 := b0.cell 2
  have r3 := b0.cell 3
  have r4 := b0.cell 4
  obtain ⟨e1, h1⟩ : ∃ b, decide (isNew r) = b := ⟨_, rfl⟩
  obtain ⟨e2, h2⟩ : ∃ b, decide (meas r) = b := ⟨_, rfl⟩
  have hc : Hid (chk r = if e1 = true then 0 else if e2 = true then 0 else 2) := by
    apply Lib.hid
    subst h1; subst h2
    simp [chk]
  have c1 := isNew_any r
  have c2 := isMeasured_any r
  rw [h1] at c1
  rw [h2] at c2
  rw [hc.out]
  clear h1 h2 b0
  cases e1 with
  | true =>
    go_enter Try.func29, Try.ntmps29
    go_wp2_with fail
    refine (c1 _).mono ?_
    rintro e w' ⟨rfl, hk⟩
    go_wp2_with fail
    go_ret
    exact ⟨rfl, kw.trans hk⟩
  | false =>
    cases e2 with
    | true =>
      go_enter Try.func29, Try.ntmps29
      go_wp2_with fail
      refine (c1 _).mono ?_
      rintro e w' ⟨rfl, hk⟩
      have q0 := hk.cell r0
      have q1 := hk.cell r1
      have q2 := hk.cell r2
      have q3 := hk.cell r3
      have q4 := hk.cell r4
      have kw2 := kw.trans hk
      clear r0 r1 r2 r3 r4 kw hk
      go_wp2_with fail
      refine (c2 _).mono ?_
      rintro e w' ⟨rfl, hk⟩
      go_wp2_with fail
      go_ret
      exact ⟨rfl, kw2.trans hk⟩
    | false =>
      go_enter Try.func29, Try.ntmps29
      go_wp2_with fail
      refine (c1 _).mono ?_
      rintro e w' ⟨rfl, hk⟩
      have q0 := hk.cell r0
      have q1 := hk.cell r1
      have q2 := hk.cell r2
      have q3 := hk.cell r3
      have q4 := hk.cell r4
      have kw2 := kw.trans hk
      clear r0 r1 r2 r3 r4 kw hk
      go_wp2_with fail
      refine (c2 _).mono ?_
      rintro e w' ⟨rfl, hk⟩
      go_wp2_with fail
      go_ret
      exact ⟨rfl, kw2.trans hk⟩

abbrev smV (x y z : Int) : Value := .agg #[.int .i64 x, .int .i64 y, .int .i64 z]
end Go.Proofs.Ytdfjceghhjecaaa.Rtt
