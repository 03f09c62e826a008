/-
  Plain mathematics: of a set's ranges none meets what lies between two numbers, just if no number between them is in the set. Nothing here speaks of a program.
-/
import Derived.Test.YtdfjceghhjecaaaPerM
import Derived.Test.YtdfjceghhjecaaaSpnM
namespace Go.Proofs.Ytdfjceghhjecaaa.PerM
open SpnM
set_option linter.unusedSimpArgs false
set_option linter.unusedVariables false

/-- Does a range meet what lies between two numbers? -/
def meets (a b : Int) (r : R) : Bool := decide (max r.1 (a + 1) ≤ min r.2 (b - 1))
theorem free_has (l : List R) (a b : Int) (hl : ∀ r ∈ l, r.1 ≤ r.2) : freeB (has l) a b = !(l.any (meets a b)) := by
  rw [Bool.eq_iff_iff, freeB_iff]
  constructor
  · intro h
    cases hm : l.any (meets a b) with
    | false => rfl
    | true =>
      obtain ⟨r, hr, hd⟩ := List.any_eq_true.1 hm
      have hd := of_decide_eq_true hd
      have h1 := h (max r.1 (a + 1)) (by omega) (by omega)
      have h2 : has l (max r.1 (a + 1)) = true := List.any_eq_true.2 ⟨r, hr, decide_eq_true (by omega)⟩
      rw [h2] at h1
      cases h1
  · intro h n h1 h2
    cases hn : has l n with
    | false => rfl
    | true =>
      obtain ⟨r, hr, hd⟩ := List.any_eq_true.1 hn
      have hd := of_decide_eq_true hd
      have h3 : l.any (meets a b) = true := List.any_eq_true.2 ⟨r, hr, decide_eq_true (by omega)⟩
      rw [h3] at h
      cases h
/-- The same, of ranges backwards (the document's set). -/
theorem free_rev (l : List R) (a b : Int) (hl : ∀ r ∈ l, r.1 ≤ r.2) : freeB (has l) a b = !(l.reverse.any (meets a b)) := by rw [free_has l a b hl, List.any_reverse]
/-- A set with more numbers has all that one has (P10.4). -/
theorem has_more {l m : List R} (h : ∀ n, mem l n → mem m n) : ∀ n, has l n = true → has m n = true := by
  intro n hn
  obtain ⟨r, hr, hd⟩ := List.any_eq_true.1 hn
  obtain ⟨q, hq, hd'⟩ := h n ⟨r, hr, of_decide_eq_true hd⟩
  exact List.any_eq_true.2 ⟨q, hq, decide_eq_true hd'⟩

end Go.Proofs.Ytdfjceghhjecaaa.PerM
