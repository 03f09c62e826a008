/-
  Words for estimates in memory; contracts of package rtt's functions.
-/
import Derived.Test.YtilfimlojpejhaaRttM
import Derived.Laws.StructEq
import Derived.Deep.RegionWith
namespace Go.Proofs.Ytilfimlojpejhaa.Rtt
open Go.RowKit RttM Wd
set_option linter.unusedVariables false
set_option linter.unusedSimpArgs false

abbrev rtV (r : Rt) : Value := .agg #[.int .i64 r.l, .int .i64 r.m, .int .i64 r.s, .int .i64 r.v, .int .i64 r.f]
abbrev rtA (r : Rt) : Array Value := #[.int .i64 r.l, .int .i64 r.m, .int .i64 r.s, .int .i64 r.v, .int .i64 r.f]
/-- What a call hands back; nothing that was there has turned. -/
def Gives (v : Value) (w : World) (e : Ending) (w' : World) : Prop := e = .returned v ∧ Kept w w'
def GBool (b : Bool) (w : World) (e : Ending) (w' : World) : Prop := e = .returned (.bool b) ∧ Kept w w'
def Same (v : Value) (w : World) (e : Ending) (w' : World) : Prop := e = .returned v ∧ w = w'

set_option maxRecDepth 100000 in
theorem eql_rt (x y : Rt) (w : World) : (binOp .eql 25 (rtV x) (rtV y)).run Try.prog w = .ok (.bool (decide (x = y))) w := by
  have u3 := Try.underlying3
  have a3 := Try.isAgg3
  have z3 := Try.sizeOf3
  have hS : Try.prog.underlying 25 = some (.struct (Try.prog.fieldsOf 25)) := by kernel_rfl
  have hp : Try.prog.stoodInHeld 25 = false := by kernel_rfl
  rw [run_eql_struct, show (10000 : Nat) = 9999 + 1 from rfl, run_equalIn_agg w 9999 _ _ _ hS hp]
  simp only [Program.fieldsOf, Try.underlying25]
  go_simp
  by_cases h : x = y
  · subst h; simp
  · rw [decide_eq_false h]
    (repeat' split) <;> first | rfl | exact absurd (Rt.ext' (by assumption) (by assumption) (by assumption) (by assumption) (by assumption)) h
set_option maxRecDepth 100000 in
theorem neq_rt (x y : Rt) (w : World) : (binOp .neq 25 (rtV x) (rtV y)).run Try.prog w = .ok (.bool (!decide (x = y))) w := by
  have u3 := Try.underlying3
  have a3 := Try.isAgg3
  have z3 := Try.sizeOf3
  have hS : Try.prog.underlying 25 = some (.struct (Try.prog.fieldsOf 25)) := by kernel_rfl
  have hp : Try.prog.stoodInHeld 25 = false := by kernel_rfl
  rw [run_neq_struct, show (10000 : Nat) = 9999 + 1 from rfl, run_equalIn_agg w 9999 _ _ _ hS hp]
  simp only [Program.fieldsOf, Try.underlying25]
  go_simp
  by_cases h : x = y
  · subst h; simp
  · rw [decide_eq_false h]
    (repeat' split) <;> first | rfl | exact absurd (Rt.ext' (by assumption) (by assumption) (by assumption) (by assumption) (by assumption)) h
set_option maxRecDepth 100000 in
theorem guard_rt : Try.prog.eqGuardType Try.prog.depth 25 = false := by kernel_rfl

set_option maxRecDepth 100000 in
theorem clamp_any (n : Int) (w : World) : Calls Try.prog 54 #[.int .i64 n] w (Same (.int .i64 (clip n)) w) := by
  go_enter Try.func54, Try.ntmps54
  go_wp2
  all_goals
    go_ret
    exact ⟨ret_int (by first | rw [clip_lo (by omega)] | rw [clip_hi (by omega)] | rw [clip_id ⟨by omega, by omega⟩]), rfl⟩
set_option maxRecDepth 100000 in
theorem isTime_any (n : Int) (w : World) : Calls Try.prog 50 #[.int .i64 n] w (Same (.bool (decide (tm n))) w) := by
  rw [tm_clip]
  go_enter Try.func50, Try.ntmps50
  go_wp2_with (go_at_call 54; refine (clamp_any _ _).mono ?_; rintro e w' ⟨rfl, rfl⟩)
  go_ret
  exact ⟨rfl, rfl⟩
set_option maxRecDepth 100000 in
theorem assumed_any (a : Int) (w : World) (h0 : 0 ≤ a) (h1 : a ≤ 60000000000) : Calls Try.prog 49 #[.int .i64 a] w (Gives (rtV (fresh a)) w) := by
  have h2 : a.tdiv 2 = a / 2 := Int.tdiv_eq_ediv_of_nonneg h0
  have h3 : IntKind.i64.wrap (a / 2) = a / 2 := IntWalk.i64_in _ (by omega)
  go_enter Try.func49, Try.ntmps49
  go_wp2
  refine bodyPost_ret (v := rtV (fresh a)) ?_ rfl ⟨rfl, ?_⟩
  · simp [results, Try.f49, go_sem, fresh]
  · (repeat' first | exact Kept.refl _ | apply Kept.alloc | refine Kept.setCell ?_ (Nat.le_refl _) _)

set_option maxRecDepth 100000 in
set_option maxHeartbeats 400000 in
theorem isNew_any (r : Rt) (w : World) : Calls Try.prog 43 #[rtV r] w (GBool (decide (isNew r)) w) := by
  have hg := guard_rt
  have heq := eql_rt r (fresh r.s)
  have hb : decide (isNew r) = (decide (1000000 ≤ r.s) && (decide (r.s ≤ 60000000000) && decide (r = fresh r.s))) := by
    rw [Bool.eq_iff_iff, Bool.and_eq_true, Bool.and_eq_true, decide_eq_true_iff, decide_eq_true_iff, decide_eq_true_iff, decide_eq_true_iff]
    constructor
    · intro h; exact ⟨h.1, h.2.1, isNew_fresh h⟩
    · rintro ⟨h1, h2, h3⟩; rw [h3]; exact fresh_new h1 h2
  rw [hb]
  clear hb
  have b0 := Blk.new w 25 (rtA r)
  have kw := (Kept.refl w).alloc (.cells (rtA r) 25)
  have r0 := b0.cell 0
  have r1 := b0.cell 1
  have r2 := b0.cell 2
  have r3 := b0.cell 3
  have r4 := b0.cell 4
  obtain ⟨E, hE⟩ : ∃ E, decide (r = fresh r.s) = E := ⟨_, rfl⟩
  rw [hE] at heq ⊢
  obtain ⟨l, m, s, v, f⟩ := r
  simp only at *
  clear hE
  by_cases h1 : 1000000 ≤ s
  · by_cases h2 : s ≤ 60000000000
    · have d1 : decide (1000000 ≤ s) = true := decide_eq_true h1
      have d2 : decide (s ≤ 60000000000) = true := decide_eq_true h2
      rw [d1, d2]
      go_enter Try.func43, Try.ntmps43
      go_wp2_with fail
      go_region_with (go_at_call 49; refine (assumed_any _ _ (by omega) (by omega)).mono ?_; rintro e w' ⟨rfl, hk⟩; have q0 := hk.cell r0; have q1 := hk.cell r1; have q2 := hk.cell r2; have q3 := hk.cell r3; have q4 := hk.cell r4; have hk2 := kw.drew.trans hk)
      all_goals
        go_wp2_with fail
        go_ret
        exact ⟨rfl, by assumption⟩
    · have d1 : decide (1000000 ≤ s) = true := decide_eq_true h1
      have d2 : decide (s ≤ 60000000000) = false := decide_eq_false h2
      rw [d1, d2]
      go_enter Try.func43, Try.ntmps43
      go_wp2_with fail
      go_quiet (fail)
      go_wp2_with fail
      go_ret
      exact ⟨rfl, kw.drewN _⟩
  · have d1 : decide (1000000 ≤ s) = false := decide_eq_false h1
    rw [d1]
    go_enter Try.func43, Try.ntmps43
    go_wp2_with fail
    go_quiet (fail)
    go_wp2_with fail
    go_ret
    exact ⟨rfl, kw.drewN _⟩

end Go.Proofs.Ytilfimlojpejhaa.Rtt
