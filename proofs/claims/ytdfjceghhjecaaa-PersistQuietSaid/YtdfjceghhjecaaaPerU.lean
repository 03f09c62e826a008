/-
  Plain mathematics for PersistQuiet: of a list of rising numbers the time of a packet is found by its number; what the period says of its pair.
-/
import Derived.Test.YtdfjceghhjecaaaPerN
namespace Go.Proofs.Ytdfjceghhjecaaa.PerM
open Cd SntM LosM
set_option linter.unusedSimpArgs false
set_option linter.unusedVariables false

/-- The time of the last packet with a number; -1, if there is none. -/
def lastT (n : Int) (l : List Pk) : Int := l.foldl (fun t p => if p.n = n then p.t else t) (-1)
theorem lastT_snoc (n : Int) (l : List Pk) (p : Pk) : lastT n (l ++ [p]) = if p.n = n then p.t else lastT n l := by unfold lastT; rw [List.foldl_append]; rfl
theorem lastT_yes {n : Int} {p : Pk} (h : p.n = n) (l : List Pk) : lastT n (l ++ [p]) = p.t := by rw [lastT_snoc, if_pos h]
theorem lastT_no {n : Int} {p : Pk} (h : ¬ p.n = n) (l : List Pk) : lastT n (l ++ [p]) = lastT n l := by rw [lastT_snoc, if_neg h]
theorem fold_far {n : Int} : ∀ (l : List Pk) (t : Int), (∀ p ∈ l, p.n ≠ n) → l.foldl (fun t p => if p.n = n then p.t else t) t = t := by
  intro l
  induction l with
  | nil => intro t _; rfl
  | cons p l ih =>
    intro t h
    rw [List.foldl_cons, if_neg (h p (by simp))]
    exact ih t (fun q hq => h q (by simp [hq]))
theorem fold_mem {x : Pk} : ∀ (l : List Pk) (t : Int), Rise l → x ∈ l → l.foldl (fun t p => if p.n = x.n then p.t else t) t = x.t := by
  intro l
  induction l with
  | nil => intro t _ h; cases h
  | cons p l ih =>
    intro t hr hx
    have hr' := List.pairwise_cons.1 hr
    rw [List.foldl_cons]
    rcases List.mem_cons.1 hx with rfl | hx
    · rw [if_pos rfl]
      exact fold_far l _ (fun q hq => by have := hr'.1 q hq; omega)
    · exact ih _ hr'.2 hx
theorem lastT_mem {x : Pk} {l : List Pk} (hr : Rise l) (hx : x ∈ l) : lastT x.n l = x.t := fold_mem l _ hr hx

/-- What is known of the pair of a period. -/
theorem per_pair {S : Int → Bool} {first : Int} {l : List Pk} {a b c : Int} (h : per S first l = some (a, b, c)) :
    ∃ x y, x ∈ l ∧ y ∈ l ∧ x.e = true ∧ y.e = true ∧ first < x.t ∧ x.n = b ∧ y.n = c ∧ y.t - x.t = a ∧ ∀ n, b < n → n < c → S n = false := by
  have hb := per_best S first l
  rw [h] at hb
  obtain ⟨⟨x, y, hp, he⟩, _⟩ := hb
  obtain ⟨hx, hy, hq⟩ := pairs_pair hp
  obtain ⟨q1, q2, q3, q4, q5, q6⟩ := (pairB_iff S first x y).1 hq
  injection he with e1 e2
  injection e2 with e2 e3
  refine ⟨x, y, hx, hy, q1, q3, q2, e2.symm, e3.symm, e1.symm, ?_⟩
  rw [e2, e3]
  exact (freeB_iff S x.n y.n).1 q6
theorem okL_filter {l : List Pk} (h : OkL l) (f : Pk → Bool) : OkL (l.filter f) :=
  ⟨Nat.le_trans (List.length_filter_le _ _) h.len, fun p hp => h.val p (List.mem_filter.1 hp).1, h.rise.filter f⟩
theorem quiet_yes {p : Pk} (h : p.e = true) (l : List Pk) : (l ++ [p]).filter (fun p => p.e) = l.filter (fun p => p.e) ++ [p] := by rw [List.filter_append]; simp [h]
theorem quiet_no {p : Pk} (h : p.e = false) (l : List Pk) : (l ++ [p]).filter (fun p => p.e) = l.filter (fun p => p.e) := by rw [List.filter_append]; simp [h]

end Go.Proofs.Ytdfjceghhjecaaa.PerM
