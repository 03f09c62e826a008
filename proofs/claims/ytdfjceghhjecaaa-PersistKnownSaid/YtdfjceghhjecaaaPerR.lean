/-
  Plain mathematics for PersistRuns: the last packet that can be come to, step by step; whether there is nothing in between, number by number; what becomes of the best pair.
-/
import Derived.Test.YtdfjceghhjecaaaPerN
namespace Go.Proofs.Ytdfjceghhjecaaa.PerM
open Cd SntM LosM
set_option linter.unusedSimpArgs false
set_option linter.unusedVariables false

theorem freeB_one (S : Int → Bool) (a : Int) : freeB S a (a + 1) = true := by rw [freeB_iff]; intro n h1 h2; omega
theorem freeB_step (S : Int → Bool) {a n : Int} (h : a < n) : freeB S a (n + 1) = (freeB S a n && !S n) := by
  rw [Bool.eq_iff_iff, Bool.and_eq_true, freeB_iff, freeB_iff]
  constructor
  · intro hh
    exact ⟨fun k h1 h2 => hh k h1 (by omega), by rw [hh n h (by omega)]; rfl⟩
  · rintro ⟨h1, h2⟩ k hk1 hk2
    rcases Int.lt_or_le k n with h3 | h3
    · exact h1 k hk1 h3
    · obtain rfl : k = n := by omega
      simpa using h2
section
variable {S : Int → Bool} {x y z : Pk} {m : Option Pk} {t : List Pk}
theorem last_stop (h : freeB S x.n y.n = false) : lastOf S x m (y :: t) = m := by
  conv => lhs; unfold lastOf
  rw [if_neg (by rw [h]; decide)]
theorem last_quiet (h : freeB S x.n y.n = true) (he : y.e = false) : lastOf S x m (y :: t) = lastOf S x m t := by
  conv => lhs; unfold lastOf
  rw [if_pos h, if_neg (by rw [he]; decide)]
theorem last_new (h : freeB S x.n y.n = true) (he : y.e = true) : lastOf S x none (y :: t) = lastOf S x (some y) t := by
  conv => lhs; unfold lastOf
  rw [if_pos h, if_pos he]
theorem last_up (h : freeB S x.n y.n = true) (he : y.e = true) (hz : z.t < y.t) : lastOf S x (some z) (y :: t) = lastOf S x (some y) t := by
  conv => lhs; unfold lastOf
  rw [if_pos h, if_pos he]
  simp only [if_pos hz]
theorem last_keep (h : freeB S x.n y.n = true) (he : y.e = true) (hz : ¬ z.t < y.t) : lastOf S x (some z) (y :: t) = lastOf S x (some z) t := by
  conv => lhs; unfold lastOf
  rw [if_pos h, if_pos he]
  simp only [if_neg hz]
end
theorem ahead_succ (S : Int → Bool) (F : Int) {l : List Pk} {i : Nat} (ht : ∀ y ∈ l.drop (i + 1), (at_ l i).t ≤ y.t) (hr : (l.drop (i + 1)).Pairwise (fun a b => a.n < b.n)) :
    ahead S F l (i + 1) = if cntB F (at_ l i) = true then upd (ahead S F l i) (at_ l i) (lastOf S (at_ l i) none (l.drop (i + 1))) else ahead S F l i :=
  inner_run (ahead S F l i) ht hr

end Go.Proofs.Ytdfjceghhjecaaa.PerM
