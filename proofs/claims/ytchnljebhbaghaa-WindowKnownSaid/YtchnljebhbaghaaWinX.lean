/-
  Contracts of package window's functions: isWithin.
-/
import Derived.Test.YtchnljebhbaghaaWinX1
import Derived.Test.YtchnljebhbaghaaWinX2
import Derived.Test.YtchnljebhbaghaaWinX3
import Derived.Test.YtchnljebhbaghaaWinX4
import Derived.Test.YtchnljebhbaghaaWinX5
import Derived.Test.YtchnljebhbaghaaWinX6
import Derived.Test.YtchnljebhbaghaaWinX7
namespace Go.Proofs.Ytchnljebhbaghaa.Win
open Go.RowKit WinM Wd
set_option linter.unusedVariables false
set_option linter.unusedSimpArgs false

/-- Do the others fit? -/
def wth (x : Wn) : Bool := decide (2 * x.d ≤ x.c ∧ x.c ≤ x.m) && ((decide (x.t = -1) || decide (x.d ≤ x.t ∧ x.t ≤ x.m)) && ((decide (x.s = -1) || decide (tm x.s)) && decide (0 ≤ x.g ∧ x.g ≤ x.c - 1)))
set_option maxRecDepth 100000 in
theorem within_at {w : World} {p : Nat} {x : Wn} (h : St w p x) (hd0 : 1200 ≤ x.d) (hd1 : x.d ≤ 65527) (hm : x.m ≤ 1099511627776) : Calls Try.prog 40 #[.pointer (some ⟨p, 0, none⟩)] w (Gives (.bool (wth x)) w) := by
  unfold wth
  have c1 := isIn_any x.c (2 * x.d) x.m
  have c2 := isIn_any x.t x.d x.m
  have c3 := isTime_any x.s
  have c4 := isIn_any x.g 0 (x.c - 1)
  by_cases h1 : 2 * x.d ≤ x.c ∧ x.c ≤ x.m
  · have hw : IntKind.i64.wrap (x.c - 1) = x.c - 1 := IntWalk.i64_in _ (by omega)
    rw [decide_eq_true h1] at c1 ⊢
    rw [Bool.true_and]
    by_cases h2 : x.t = -1
    · have e2 : (x.t == -1) = true := by simpa using h2
      rw [decide_eq_true h2, Bool.true_or, Bool.true_and]
      by_cases h3 : x.s = -1
      · have e3 : (x.s == -1) = true := by simpa using h3
        rw [decide_eq_true h3, Bool.true_or, Bool.true_and]
        exact within_1 h hd0 hd1 e2 e3 c1 _ hw c4
      · have e3 : (x.s == -1) = false := by simpa using h3
        rw [decide_eq_false h3, Bool.false_or]
        by_cases h4 : tm x.s
        · rw [decide_eq_true h4] at c3 ⊢
          rw [Bool.true_and]
          exact within_2 h hd0 hd1 e2 e3 c1 c3 _ hw c4
        · rw [decide_eq_false h4] at c3 ⊢
          rw [Bool.false_and]
          exact within_3 h hd0 hd1 e2 e3 c1 c3
    · have e2 : (x.t == -1) = false := by simpa using h2
      rw [decide_eq_false h2, Bool.false_or]
      by_cases h5 : x.d ≤ x.t ∧ x.t ≤ x.m
      · rw [decide_eq_true h5] at c2 ⊢
        rw [Bool.true_and]
        by_cases h3 : x.s = -1
        · have e3 : (x.s == -1) = true := by simpa using h3
          rw [decide_eq_true h3, Bool.true_or, Bool.true_and]
          exact within_4 h hd0 hd1 e2 e3 c1 c2 _ hw c4
        · have e3 : (x.s == -1) = false := by simpa using h3
          rw [decide_eq_false h3, Bool.false_or]
          by_cases h4 : tm x.s
          · rw [decide_eq_true h4] at c3 ⊢
            rw [Bool.true_and]
            exact within_5 h hd0 hd1 e2 e3 c1 c2 c3 _ hw c4
          · rw [decide_eq_false h4] at c3 ⊢
            rw [Bool.false_and]
            exact within_6 h hd0 hd1 e2 e3 c1 c2 c3
      · rw [decide_eq_false h5] at c2 ⊢
        rw [Bool.false_and]
        exact within_7 h hd0 hd1 e2 c1 c2
  · rw [decide_eq_false h1] at c1 ⊢
    rw [Bool.false_and]
    have hl := fun (W : World) (h : St W p x) => least_at h (by omega) (by omega)
    have H := Lib.hid (fun (n : Nat) => h.kept ((Kept.refl w).drewN n))
    have r0 := h.cell 0
    have r1 := h.cell 1
    have r2 := h.cell 2
    clear h hd0 hd1 h1
    go_enter Try.func40, Try.ntmps40
    go_wp2_with fail
    simp only [List.append_eq, List.cons_append, List.nil_append]
    go_quiet ((first
      | (go_at_call 42; with_reducible exact quiet_same (c1 _))
      | (go_at_call 45; exact quiet_same (hl _ (H.out _)))))
    go_wp2_with fail
    go_ret
    exact ⟨rfl, (Kept.refl _).drewN _⟩
theorem ok_two (x : Wn) : decide (Ok x) = (bnd x && wth x) := by
  unfold bnd wth
  rw [Bool.eq_iff_iff]
  simp only [Bool.and_eq_true, Bool.or_eq_true, decide_eq_true_iff]
  constructor
  · rintro ⟨h1, h2, h3, h4, h5, h6, h7, h8, h9, h10⟩
    exact ⟨⟨⟨h1, h2⟩, h3, h4⟩, ⟨h5, h6⟩, h7, h8, h9, by omega⟩
  · rintro ⟨⟨⟨h1, h2⟩, h3, h4⟩, ⟨h5, h6⟩, h7, h8, h9, h10⟩
    exact ⟨h1, h2, h3, h4, h5, h6, h7, h8, h9, by omega⟩
theorem bnd_of {x : Wn} (h : bnd x = true) : 1200 ≤ x.d ∧ x.d ≤ 65527 ∧ x.m ≤ 1099511627776 := by
  unfold bnd at h
  simp only [Bool.and_eq_true, decide_eq_true_iff] at h
  omega
theorem chk_b (x : Wn) : chk x = if (bnd x && wth x) = true then 0 else 2 := by
  rw [← ok_two, chk]
  by_cases h : Ok x
  · rw [if_pos h, if_pos (decide_eq_true h)]
  · rw [if_neg h, if_neg (by rw [decide_eq_false h]; decide)]

/-- A window's own box and the state's, laid behind each other. -/
theorem two_st (w : World) (x : Wn) : ∃ W, W = ((w.alloc (.cells (wnA x) 23)).alloc (.cells (wnA x) 56)) ∧ Blk W w.heap.size 23 (wnA x) ∧ St W (w.heap.size + 1) x ∧ Kept w W := by
  refine ⟨_, rfl, (Blk.new _ _ _).kept ((Kept.refl _).alloc _), ?_, ((Kept.refl w).alloc _).alloc _⟩
  have := Blk.new (w.alloc (.cells (wnA x) 23)) 56 (wnA x)
  rwa [World.size_alloc] at this
end Go.Proofs.Ytchnljebhbaghaa.Win
