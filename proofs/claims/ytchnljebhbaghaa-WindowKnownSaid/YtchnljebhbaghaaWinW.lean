/-
  Words for windows in memory; contracts of package window's functions, up to Check and Slow.
-/
import Derived.Test.YtchnljebhbaghaaWinM
import Derived.Laws.StructEq
import Derived.Deep.RegionWith
namespace Go.Proofs.Ytchnljebhbaghaa.Win
open Go.RowKit WinM Wd
set_option linter.unusedVariables false
set_option linter.unusedSimpArgs false

abbrev wnV (x : Wn) : Value := .agg #[.int .i64 x.d, .int .i64 x.m, .int .i64 x.c, .int .i64 x.t, .int .i64 x.s, .int .i64 x.g]
abbrev wnA (x : Wn) : Array Value := #[.int .i64 x.d, .int .i64 x.m, .int .i64 x.c, .int .i64 x.t, .int .i64 x.s, .int .i64 x.g]
/-- What a call hands back; nothing that was there has turned. -/
def Gives (v : Value) (w : World) (e : Ending) (w' : World) : Prop := e = .returned v ∧ Kept w w'
def Same (v : Value) (w : World) (e : Ending) (w' : World) : Prop := e = .returned v ∧ w = w'
def Unit_ (R : World → Prop) (e : Ending) (w' : World) : Prop := e = .returned (.tuple #[]) ∧ R w'
/-- A state's block. -/
abbrev St (w : World) (p : Nat) (x : Wn) : Prop := Blk w p 56 (wnA x)
/-- What a state's change leaves. -/
def Sets (p : Nat) (x : Wn) (w : World) : Ending → World → Prop := Unit_ fun w' => St w' p x ∧ But (fun k => k = p) w w'

set_option maxRecDepth 100000 in
theorem eql_wn (x y : Wn) (w : World) : (binOp .eql 23 (wnV x) (wnV y)).run Try.prog w = .ok (.bool (decide (x = y))) w := by
  have u3 := Try.underlying3
  have a3 := Try.isAgg3
  have z3 := Try.sizeOf3
  have hS : Try.prog.underlying 23 = some (.struct (Try.prog.fieldsOf 23)) := by kernel_rfl
  have hp : Try.prog.stoodInHeld 23 = false := by kernel_rfl
  rw [run_eql_struct, show (10000 : Nat) = 9999 + 1 from rfl, run_equalIn_agg w 9999 _ _ _ hS hp]
  simp only [Program.fieldsOf, Try.underlying23]
  go_simp
  by_cases h : x = y
  · subst h; simp
  · rw [decide_eq_false h]
    (repeat' split) <;> first | rfl | exact absurd (Wn.ext' (by assumption) (by assumption) (by assumption) (by assumption) (by assumption) (by assumption)) h
set_option maxRecDepth 100000 in
theorem neq_wn (x y : Wn) (w : World) : (binOp .neq 23 (wnV x) (wnV y)).run Try.prog w = .ok (.bool (!decide (x = y))) w := by
  have u3 := Try.underlying3
  have a3 := Try.isAgg3
  have z3 := Try.sizeOf3
  have hS : Try.prog.underlying 23 = some (.struct (Try.prog.fieldsOf 23)) := by kernel_rfl
  have hp : Try.prog.stoodInHeld 23 = false := by kernel_rfl
  rw [run_neq_struct, show (10000 : Nat) = 9999 + 1 from rfl, run_equalIn_agg w 9999 _ _ _ hS hp]
  simp only [Program.fieldsOf, Try.underlying23]
  go_simp
  by_cases h : x = y
  · subst h; simp
  · rw [decide_eq_false h]
    (repeat' split) <;> first | rfl | exact absurd (Wn.ext' (by assumption) (by assumption) (by assumption) (by assumption) (by assumption) (by assumption)) h
theorem guard_wn : Try.prog.eqGuardType Try.prog.depth 23 = false := by kernel_rfl

theorem isIn_any (n a b : Int) (w : World) : Calls Try.prog 42 #[.int .i64 n, .int .i64 a, .int .i64 b] w (Same (.bool (decide (a ≤ n ∧ n ≤ b))) w) := by
  obtain ⟨E, hE⟩ : ∃ E, decide (a ≤ n ∧ n ≤ b) = E := ⟨_, rfl⟩
  rw [hE]
  go_enter Try.func42, Try.ntmps42
  go_wp2
  all_goals
    go_ret
    exact ⟨ret_bool (by rw [← hE, Bool.eq_iff_iff]; simp; omega), rfl⟩
theorem isTime_any (n : Int) (w : World) : Calls Try.prog 29 #[.int .i64 n] w (Same (.bool (decide (tm n))) w) := by
  have c1 := isIn_any n 0 9007199254740991
  rw [show decide (0 ≤ n ∧ n ≤ 9007199254740991) = decide (tm n) from rfl] at c1
  go_enter Try.func29, Try.ntmps29
  go_wp2_with (go_at_call 42; refine (c1 _).mono ?_; rintro e w' ⟨rfl, rfl⟩)
  go_ret
  exact ⟨rfl, rfl⟩
theorem least_at {w : World} {p : Nat} {x : Wn} (h : St w p x) (h0 : -4000000000000000000 ≤ x.d) (h1 : x.d ≤ 4000000000000000000) : Calls Try.prog 45 #[.pointer (some ⟨p, 0, none⟩)] w (Same (.int .i64 (2 * x.d)) w) := by
  have r0 := h.cell 0
  have hw : IntKind.i64.wrap (2 * x.d) = 2 * x.d := IntWalk.i64_in _ (by omega)
  go_enter Try.func45, Try.ntmps45
  go_wp2_with fail
  go_ret
  exact ⟨rfl, rfl⟩
theorem isSlow_at {w : World} {p : Nat} {x : Wn} (h : St w p x) : Calls Try.prog 31 #[.pointer (some ⟨p, 0, none⟩)] w (Gives (.bool (decide (x.t = -1 ∨ x.c < x.t))) w) := by
  have r2 := h.cell 2
  have r3 := h.cell 3
  by_cases h3 : x.t = -1
  · rw [decide_eq_true (.inl h3)]
    have hb : (x.t == -1) = true := by simpa using h3
    go_enter Try.func31, Try.ntmps31
    go_wp2_with fail
    go_region
    all_goals
      go_wp2_with fail
      go_ret
      exact ⟨rfl, (Kept.refl _).drew⟩
  · have hb : (x.t == -1) = false := by simpa using h3
    obtain ⟨E, hE⟩ : ∃ E, decide (x.c < x.t) = E := ⟨_, rfl⟩
    rw [show decide (x.t = -1 ∨ x.c < x.t) = E by rw [← hE, Bool.eq_iff_iff]; simp [h3]]
    go_enter Try.func31, Try.ntmps31
    go_wp2_with fail
    go_region
    all_goals
      go_wp2_with fail
      go_ret
      exact ⟨rfl, (Kept.refl _).drew⟩
theorem isAfter_at {w : World} {p : Nat} {x : Wn} (h : St w p x) (a : Int) : Calls Try.prog 34 #[.pointer (some ⟨p, 0, none⟩), .int .i64 a] w (Same (.bool (behindB x a)) w) := by
  have r4 := h.cell 4
  obtain ⟨E, hE⟩ : ∃ E, behindB x a = E := ⟨_, rfl⟩
  rw [hE]
  unfold behindB at hE
  go_enter Try.func34, Try.ntmps34
  go_wp2_with fail
  all_goals
    go_ret
    exact ⟨ret_bool (by rw [← hE, Bool.eq_iff_iff]; simp <;> omega), rfl⟩

/-- Do its first two numbers fit? -/
def bnd (x : Wn) : Bool := decide (1200 ≤ x.d ∧ x.d ≤ 65527) && decide (2 * x.d ≤ x.m ∧ x.m ≤ 1099511627776)
theorem bounds_at {w : World} {p : Nat} {x : Wn} (h : St w p x) : Calls Try.prog 39 #[.pointer (some ⟨p, 0, none⟩)] w (Gives (.bool (bnd x)) w) := by
  unfold bnd
  by_cases hd : 1200 ≤ x.d ∧ x.d ≤ 65527
  · have hl := fun (W : World) (h : St W p x) => least_at h (by omega) (by omega)
    have H := Lib.hid (fun (n : Nat) => h.kept ((Kept.refl w).drewN n))
    have r0 := h.cell 0
    have r1 := h.cell 1
    have c1 := isIn_any x.d 1200 65527
    have c2 := isIn_any x.m (2 * x.d) 1099511627776
    rw [decide_eq_true hd] at c1 ⊢
    rw [Bool.true_and]
    obtain ⟨E, hE⟩ : ∃ E, decide (2 * x.d ≤ x.m ∧ x.m ≤ 1099511627776) = E := ⟨_, rfl⟩
    rw [hE] at c2 ⊢
    clear hE hd
    go_enter Try.func39, Try.ntmps39
    go_wp2_with fail
    go_quiet ((first | (go_at_call 42; (first | with_reducible exact quiet_same (c1 _) | with_reducible exact quiet_same (c2 _))) | (go_at_call 45; exact quiet_same (hl _ (H.out _)))))
    go_wp2_with fail
    go_ret
    exact ⟨rfl, (Kept.refl _).drewN _⟩
  · have r0 := h.cell 0
    have c1 := isIn_any x.d 1200 65527
    rw [decide_eq_false hd] at c1 ⊢
    rw [Bool.false_and]
    go_enter Try.func39, Try.ntmps39
    go_wp2_with fail
    go_quiet ((go_at_call 42; with_reducible exact quiet_same (c1 _)))
    go_wp2_with fail
    go_ret
    exact ⟨rfl, (Kept.refl _).drewN _⟩

end Go.Proofs.Ytchnljebhbaghaa.Win
