/-
  Plain mathematics: which numbers an ACK has next to the ends of a range.
-/
import Derived.Test.YtgbeankindcloaaDoorFrmH
namespace Go.Proofs.YtgbeankindcloaaDoor.Frm
open SpnM FrmM
set_option linter.unusedVariables false
set_option linter.unusedSimpArgs false

theorem falls_below {l : List R} : ∀ {top : Int}, top ≤ M → falls top l → ∀ y ∈ l, 0 ≤ y.1 ∧ y.1 ≤ y.2 ∧ y.2 ≤ top := by
  induction l with
  | nil => intro top _ _ y h; cases h
  | cons x t ih =>
    intro top ht h y hy
    rw [falls_cons] at h
    obtain ⟨h1, h2⟩ := h
    have hu := under_eq ht h1
    obtain ⟨f1, f2, f3⟩ := h1
    simp only at f1 f2 f3
    rw [hu] at h2
    rcases List.mem_cons.1 hy with rfl | hy
    · exact ⟨f1, f2, f3⟩
    · obtain ⟨g1, g2, g3⟩ := ih (by omega) h2 y hy
      exact ⟨g1, g2, by omega⟩
theorem falls_parts {r : R} {post : List R} (pre : List R) : ∀ {top : Int}, top ≤ M → falls top (pre ++ r :: post) → (∀ y ∈ pre, r.2 + 2 ≤ y.1) ∧ (∀ y ∈ post, y.2 + 2 ≤ r.1) ∧ 0 ≤ r.1 ∧ r.1 ≤ r.2 ∧ r.2 ≤ top := by
  induction pre with
  | nil =>
    intro top ht h
    rw [List.nil_append, falls_cons] at h
    obtain ⟨h1, h2⟩ := h
    have hu := under_eq ht h1
    obtain ⟨f1, f2, f3⟩ := h1
    simp only at f1 f2 f3
    rw [hu] at h2
    exact ⟨fun y hy => (by cases hy), fun y hy => (by have := (falls_below (by omega) h2 y hy).2.2; omega), f1, f2, f3⟩
  | cons x t ih =>
    intro top ht h
    rw [List.cons_append, falls_cons] at h
    obtain ⟨h1, h2⟩ := h
    have hu := under_eq ht h1
    obtain ⟨f1, f2, f3⟩ := h1
    simp only at f1 f2 f3
    rw [hu] at h2
    obtain ⟨g1, g2, g3, g4, g5⟩ := ih (by omega) h2
    refine ⟨fun y hy => ?_, g2, g3, g4, by omega⟩
    rcases List.mem_cons.1 hy with rfl | hy
    · omega
    · exact g1 y hy

/-- Next to a range an ACK has just that range's numbers. -/
theorem has_near {a : FrmM.Ack} (hv : Valid a) {pre post : List R} {r : R} (h : a.ranges = pre ++ r :: post) {x : Int} (h1 : r.1 - 1 ≤ x) (h2 : x ≤ r.2 + 1) : has a x = (decide (r.1 ≤ x) && decide (x ≤ r.2)) := by
  have hf := hv.2.1
  rw [h] at hf
  obtain ⟨g1, g2, _, _, _⟩ := falls_parts pre (Int.le_refl _) hf
  unfold has
  rw [decide_eq_true hv, h, List.any_append, List.any_cons, Bool.true_and]
  have e1 : (pre.any fun r => decide (r.1 ≤ x) && decide (x ≤ r.2)) = false := by
    rw [List.any_eq_false]; intro y hy; have := g1 y hy; simp; omega
  have e2 : (post.any fun r => decide (r.1 ≤ x) && decide (x ≤ r.2)) = false := by
    rw [List.any_eq_false]; intro y hy; have := g2 y hy; simp; omega
  rw [e1, e2]
  simp
/-- A range of an ACK, and what it has near it. -/
theorem has_at {a : FrmM.Ack} (hv : Valid a) {k : Nat} (hk : k < a.ranges.length) : ∃ lo hi : Int, a.ranges[k]? = some (lo, hi) ∧ 0 ≤ lo ∧ lo ≤ hi ∧ hi ≤ 9007199254740991 ∧
    has a lo = true ∧ has a hi = true ∧ has a (hi + 1) = false ∧ has a (lo - 1) = false ∧ has a (lo + (hi - lo) / 2) = true := by
  have hs : a.ranges = a.ranges.take k ++ a.ranges[k] :: a.ranges.drop (k + 1) := by
    rw [List.getElem_cons_drop, List.take_append_drop]
  have hf := hv.2.1
  rw [hs] at hf
  obtain ⟨_, _, h3, h4, h5⟩ := falls_parts _ (Int.le_refl _) hf
  generalize hr : a.ranges[k] = r at *
  obtain ⟨lo, hi⟩ := r
  simp only at h3 h4 h5
  unfold M at h5
  refine ⟨lo, hi, by rw [List.getElem?_eq_getElem hk, hr], h3, h4, h5, ?_, ?_, ?_, ?_, ?_⟩
  · rw [has_near hv hs (by simp; omega) (by simp; omega)]; simp; omega
  · rw [has_near hv hs (by simp; omega) (by simp; try omega)]; simp; omega
  · rw [has_near hv hs (by simp; omega) (by simp; try omega)]; simp; omega
  · rw [has_near hv hs (by simp; try omega) (by simp; omega)]; simp; omega
  · rw [has_near hv hs (by simp; omega) (by simp; omega)]; simp; omega
/-- Is the number in one of these ranges? -/
def anyIn (n : Int) (l : List R) : Bool := l.any (fun r => decide (r.1 ≤ n) && decide (n ≤ r.2))
theorem anyIn_step {n : Int} {l : List R} {k : Nat} {lo hi : Int} (h : l[k]? = some (lo, hi)) : anyIn n (l.take (k + 1)) = (anyIn n (l.take k) || (decide (lo ≤ n) && decide (n ≤ hi))) := by
  obtain ⟨hk, e⟩ := List.getElem?_eq_some_iff.1 h
  unfold anyIn
  rw [List.take_add_one, h, List.any_append]
  simp
theorem has_all {a : FrmM.Ack} (hv : Valid a) (n : Int) : has a n = anyIn n a.ranges := by unfold has anyIn; rw [decide_eq_true hv, Bool.true_and]

end Go.Proofs.YtgbeankindcloaaDoor.Frm
