/-
  Contracts: Check, the program's and the document's.
-/
import Derived.Test.YtbclpjfjkgehaaaEcnX
namespace Go.Proofs.Ytbclpjfjkgehaaa.Ecn
open Go.RowKit EcnM Wd
set_option linter.unusedVariables false
set_option linter.unusedSimpArgs false

/-- Three numbers by their places. -/
def of3 (a b c : Int) : Nat → Int
  | 0 => a
  | 1 => b
  | _ => c
theorem all1 (a : Int) : allB 1 (fun _ => a) = decide (nm a) := by
  unfold allB
  rw [decide_eq_decide]
  exact ⟨fun h => h 0 (by omega), fun h _ _ => h⟩
theorem all3 (a b c : Int) : allB 3 (of3 a b c) = thr a b c := by
  unfold allB thr
  rw [Bool.eq_iff_iff]
  simp only [decide_eq_true_iff, Bool.and_eq_true]
  refine ⟨fun h => ⟨h 0 (by omega), h 1 (by omega), h 2 (by omega)⟩, fun h k hk => ?_⟩
  match k, hk with
  | 0, _ => exact h.1
  | 1, _ => exact h.2.1
  | 2, _ => exact h.2.2
theorem thr_is {a b c : Int} : thr a b c = true ↔ nm a ∧ nm b ∧ nm c := by
  unfold thr; simp only [Bool.and_eq_true, decide_eq_true_iff]
theorem thr_not {a b c : Int} : thr a b c = false ↔ ¬ (nm a ∧ nm b ∧ nm c) := by
  rw [← Bool.not_eq_true, thr_is]
theorem chk_b (x : Cn) : chk x = if decide (nm x.s) = true then (if thr x.a x.b x.c = true then 0 else 2) else 2 := by
  by_cases h : Ok x
  · rw [chk_ok h, if_pos (decide_eq_true h.s), if_pos (thr_is.2 ⟨h.a, h.b, h.c⟩)]
  · rw [chk_no h]
    by_cases h1 : nm x.s
    · rw [if_pos (decide_eq_true h1), if_neg]
      intro h2
      have h3 := thr_is.1 h2
      exact h ⟨h1, h3.1, h3.2.1, h3.2.2⟩
    · rw [if_neg (by simpa using h1)]
/-- A literal row of one number. -/
theorem one_nums {W : World} {g : Nat} {n : Int} (h : Blk W g 3 #[.int .i64 n]) : Calls Try.prog 18 #[.slice (some ⟨g, 0, none⟩) 1 1] W (Same (.bool (decide (nm n))) W) := by
  have := nums_at W g 0 1 1 (fun _ => n) (by omega) (fun k hk => by have e : k = 0 := by omega
                                                                    subst e; exact h.cell 0)
  rwa [all1] at this
/-- Three numbers that lie in a box. -/
theorem box_nums {W : World} {g o : Nat} {a b c : Int} (h0 : W.cell? ⟨g, o, none⟩ = some (.int .i64 a)) (h1 : W.cell? ⟨g, o + 1, none⟩ = some (.int .i64 b)) (h2 : W.cell? ⟨g, o + 2, none⟩ = some (.int .i64 c)) : Calls Try.prog 18 #[.slice (some ⟨g, o, none⟩) 3 3] W (Same (.bool (thr a b c)) W) := by
  have := nums_at W g o 3 3 (of3 a b c) (by omega) (fun k hk => by
    match k, hk with
    | 0, _ => exact h0
    | 1, _ => exact h1
    | 2, _ => exact h2)
  rwa [all3] at this

set_option maxRecDepth 100000 in
theorem check_any (x : Cn) (w : World) : Calls Try.prog 13 #[cnV x] w (Gives (.int .i64 (chk x)) w) := by
  have B0 := (Blk.new w 24 (cnA x)).kept ((Kept.refl _).alloc (.cells #[.int .i64 x.s] 3))
  have L0 := Blk.new (w.alloc (.cells (cnA x) 24)) 3 #[.int .i64 x.s]
  rw [World.size_alloc] at L0
  have k1 := one_nums L0
  have k2 := box_nums (B0.cell 1) (B0.cell 2) (B0.cell 3)
  have kw := Lib.hid (((Kept.refl w).alloc (.cells (cnA x) 24)).alloc (.cells #[.int .i64 x.s] 3))
  rw [chk_b]
  obtain ⟨A, hA⟩ : ∃ A, decide (nm x.s) = A := ⟨_, rfl⟩
  obtain ⟨B, hB⟩ : ∃ B, thr x.a x.b x.c = B := ⟨_, rfl⟩
  rw [hA] at k1 ⊢
  rw [hB] at k2 ⊢
  clear hA hB B0 L0
  cases A with
  | false =>
    rw [if_neg (by decide)]
    go_enter Try.func13, Try.ntmps13
    go_wp2_with fail
    refine k1.mono ?_
    rintro e w' ⟨rfl, rfl⟩
    go_wp2_with fail
    go_ret
    exact ⟨rfl, kw.out⟩
  | true =>
    rw [if_pos rfl]
    cases B with
    | false =>
      rw [if_neg (by decide)]
      go_enter Try.func13, Try.ntmps13
      go_wp2_with fail
      refine k1.mono ?_
      rintro e w' ⟨rfl, rfl⟩
      go_wp2_with fail
      refine k2.mono ?_
      rintro e w' ⟨rfl, rfl⟩
      go_wp2_with fail
      go_ret
      exact ⟨rfl, kw.out⟩
    | true =>
      rw [if_pos rfl]
      go_enter Try.func13, Try.ntmps13
      go_wp2_with fail
      refine k1.mono ?_
      rintro e w' ⟨rfl, rfl⟩
      go_wp2_with fail
      refine k2.mono ?_
      rintro e w' ⟨rfl, rfl⟩
      go_wp2_with fail
      go_ret
      exact ⟨rfl, kw.out⟩

set_option maxRecDepth 100000 in
theorem rcheck_any (x : Cn) (w : World) : Calls Try.prog 14 #[cnV x] w (Gives (.int .i64 (chk x)) w) := by
  have k1 := is_any x.s
  have k2 := three_any x.a x.b x.c
  have kw := Lib.hid ((Kept.refl w).alloc (.cells (cnA x) 31))
  rw [chk_b]
  obtain ⟨A, hA⟩ : ∃ A, decide (nm x.s) = A := ⟨_, rfl⟩
  obtain ⟨B, hB⟩ : ∃ B, thr x.a x.b x.c = B := ⟨_, rfl⟩
  rw [hA] at k1 ⊢
  rw [hB] at k2 ⊢
  clear hA hB
  cases A with
  | false =>
    rw [if_neg (by decide)]
    go_enter Try.func14, Try.ntmps14
    go_wp2_with fail
    refine (k1 _).mono ?_
    rintro e w' ⟨rfl, rfl⟩
    go_wp2_with fail
    go_ret
    exact ⟨rfl, kw.out⟩
  | true =>
    rw [if_pos rfl]
    cases B with
    | false =>
      rw [if_neg (by decide)]
      go_enter Try.func14, Try.ntmps14
      go_wp2_with fail
      refine (k1 _).mono ?_
      rintro e w' ⟨rfl, rfl⟩
      go_wp2_with fail
      refine (k2 _).mono ?_
      rintro e w1 ⟨rfl, hk⟩
      go_wp2_with fail
      go_ret
      exact ⟨rfl, kw.out.trans hk⟩
    | true =>
      rw [if_pos rfl]
      go_enter Try.func14, Try.ntmps14
      go_wp2_with fail
      refine (k1 _).mono ?_
      rintro e w' ⟨rfl, rfl⟩
      go_wp2_with fail
      refine (k2 _).mono ?_
      rintro e w1 ⟨rfl, hk⟩
      go_wp2_with fail
      go_ret
      exact ⟨rfl, kw.out.trans hk⟩
end Go.Proofs.Ytbclpjfjkgehaaa.Ecn
