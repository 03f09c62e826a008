/-
  Contract of the document's own Whole: the world stays as it was.
-/
import Derived.Test.YtlfgidkjbjlaiaaPnuC
namespace Go.Proofs.Ytlfgidkjbjlaiaa.Pnu
open Go.RowKit OctM Oct PnuM
set_option linter.unusedSimpArgs false
set_option linter.unusedVariables false

def dist (a b : Int) : Int := if a ≤ b then b - a else a - b
/-- The better one of a new number and the best so far. -/
def better (next n best : Int) : Int := if isn n ∧ (best < 0 ∨ dist n next ≤ dist best next) then n else best
/-- The best one of the first k. -/
def bst (next v s : Int) : Nat → Int
  | 0 => -1
  | k + 1 => better next ((next / s + ((k : Int) - 1)) * s + v) (bst next v s k)
theorem better_first (next n : Int) : better next n (-1) = if isn n then n else -1 := by
  unfold better
  by_cases h : isn n
  · rw [if_pos ⟨h, .inl (by decide)⟩, if_pos h]
  · rw [if_neg (fun h' => h h'.1), if_neg h]
theorem dist_any (a b : Int) (w : World) (ha : -9223372036854775808 ≤ a - b) (hb : a - b ≤ 9223372036854775807) (hc : -9223372036854775808 ≤ b - a) (hd : b - a ≤ 9223372036854775807) : Calls Try.prog 27 #[.int .i64 a, .int .i64 b] w fun e w' => e = .returned (.int .i64 (dist a b)) ∧ w = w' := far_any a b w ha hb hc hd
theorem bst_bd (next v s : Int) : ∀ k, -1 ≤ bst next v s k ∧ bst next v s k ≤ 9007199254740991 := by
  intro k
  induction k with
  | zero => simp [bst]
  | succ k ih =>
    unfold bst better
    split
    · rename_i h
      have h1 := h.1
      unfold isn at h1
      omega
    · exact ih
theorem val_take (l : List Int) (k : Nat) (h : k < l.length) : val 0 (l.take (k + 1)) = 256 * val 0 (l.take k) + nth l k := by
  rw [List.take_add_one, List.getElem?_eq_getElem h, Option.toList_some, val_snoc]
  simp [nth, List.getD, h]
theorem val_take_bd (l : List Int) (hb : allByte l) (h4 : l.length ≤ 4) (k : Nat) (hk : k ≤ l.length) : 0 ≤ val 0 (l.take k) ∧ val 0 (l.take k) < 4294967296 := by
  rcases Nat.eq_zero_or_pos k with h0 | h0
  · subst h0; simp [val]
  · have hl : (l.take k).length = k := by simp; omega
    have h1 := val_bd (l.take k) (fun x hx => hb x (List.mem_of_mem_take hx)) (by omega) (by omega)
    rw [hl] at h1
    have := four_steps k h0 (by omega)
    omega

def CutRel (l : List Int) (n : Nat) (cut i : Value) : Prop := ∃ k : Nat, k ≤ n ∧ cut = .int .i64 (val 0 (l.take k)) ∧ i = .int .i64 k
def BstRel (next v s : Int) (best i : Value) : Prop := ∃ k : Nat, k ≤ 3 ∧ best = .int .i64 (bst next v s k) ∧ i = .int .i64 ((k : Int) - 1)

theorem bst_near1 (next v : Int) (h0 : 0 ≤ next) (h1 : next ≤ 9007199254740992) (hv0 : 0 ≤ v) (hv1 : v < 256) : bst next v 256 3 = near next v 256 := by
  symm
  have e0 : bst next v 256 1 = if isn ((next / 256 + -1) * 256 + v) then (next / 256 + -1) * 256 + v else -1 := by
    have e : bst next v 256 1 = better next ((next / 256 + (((0 : Nat) : Int) - 1)) * 256 + v) (-1) := by rw [bst, bst]
    rw [e, show (((0 : Nat) : Int) - 1) = -1 by decide, better_first]
  have e1 : bst next v 256 2 = better next (next / 256 * 256 + v) (bst next v 256 1) := by rw [bst]; simp
  have e2 : bst next v 256 3 = better next ((next / 256 + 1) * 256 + v) (bst next v 256 2) := by rw [bst]; simp
  rw [e2, e1, e0]
  apply near_uniq next v 256 _ (by omega) h0 h1 hv0 hv1
  all_goals
    unfold better dist isn
    repeat' split
    all_goals omega

theorem bst_near2 (next v : Int) (h0 : 0 ≤ next) (h1 : next ≤ 9007199254740992) (hv0 : 0 ≤ v) (hv1 : v < 65536) : bst next v 65536 3 = near next v 65536 := by
  symm
  have e0 : bst next v 65536 1 = if isn ((next / 65536 + -1) * 65536 + v) then (next / 65536 + -1) * 65536 + v else -1 := by
    have e : bst next v 65536 1 = better next ((next / 65536 + (((0 : Nat) : Int) - 1)) * 65536 + v) (-1) := by rw [bst, bst]
    rw [e, show (((0 : Nat) : Int) - 1) = -1 by decide, better_first]
  have e1 : bst next v 65536 2 = better next (next / 65536 * 65536 + v) (bst next v 65536 1) := by rw [bst]; simp
  have e2 : bst next v 65536 3 = better next ((next / 65536 + 1) * 65536 + v) (bst next v 65536 2) := by rw [bst]; simp
  rw [e2, e1, e0]
  apply near_uniq next v 65536 _ (by omega) h0 h1 hv0 hv1
  all_goals
    unfold better dist isn
    repeat' split
    all_goals omega

theorem bst_near3 (next v : Int) (h0 : 0 ≤ next) (h1 : next ≤ 9007199254740992) (hv0 : 0 ≤ v) (hv1 : v < 16777216) : bst next v 16777216 3 = near next v 16777216 := by
  symm
  have e0 : bst next v 16777216 1 = if isn ((next / 16777216 + -1) * 16777216 + v) then (next / 16777216 + -1) * 16777216 + v else -1 := by
    have e : bst next v 16777216 1 = better next ((next / 16777216 + (((0 : Nat) : Int) - 1)) * 16777216 + v) (-1) := by rw [bst, bst]
    rw [e, show (((0 : Nat) : Int) - 1) = -1 by decide, better_first]
  have e1 : bst next v 16777216 2 = better next (next / 16777216 * 16777216 + v) (bst next v 16777216 1) := by rw [bst]; simp
  have e2 : bst next v 16777216 3 = better next ((next / 16777216 + 1) * 16777216 + v) (bst next v 16777216 2) := by rw [bst]; simp
  rw [e2, e1, e0]
  apply near_uniq next v 16777216 _ (by omega) h0 h1 hv0 hv1
  all_goals
    unfold better dist isn
    repeat' split
    all_goals omega

theorem bst_near4 (next v : Int) (h0 : 0 ≤ next) (h1 : next ≤ 9007199254740992) (hv0 : 0 ≤ v) (hv1 : v < 4294967296) : bst next v 4294967296 3 = near next v 4294967296 := by
  symm
  have e0 : bst next v 4294967296 1 = if isn ((next / 4294967296 + -1) * 4294967296 + v) then (next / 4294967296 + -1) * 4294967296 + v else -1 := by
    have e : bst next v 4294967296 1 = better next ((next / 4294967296 + (((0 : Nat) : Int) - 1)) * 4294967296 + v) (-1) := by rw [bst, bst]
    rw [e, show (((0 : Nat) : Int) - 1) = -1 by decide, better_first]
  have e1 : bst next v 4294967296 2 = better next (next / 4294967296 * 4294967296 + v) (bst next v 4294967296 1) := by rw [bst]; simp
  have e2 : bst next v 4294967296 3 = better next ((next / 4294967296 + 1) * 4294967296 + v) (bst next v 4294967296 2) := by rw [bst]; simp
  rw [e2, e1, e0]
  apply near_uniq next v 4294967296 _ (by omega) h0 h1 hv0 hv1
  all_goals
    unfold better dist isn
    repeat' split
    all_goals omega


set_option maxHeartbeats 400000 in
theorem rwhole_range (g : Int) (A : Option Addr) (n c : Nat) (w : World) (h : ¬ isg g) : Calls Try.prog 16 #[.int .i64 g, .slice A n c] w (Tells 0 9 w) := by
  have d1 : decide (isn g) = false := by simp only [decide_eq_false_iff_not]; unfold isg at h; unfold isn; omega
  have d2 : (g != -1) = true := by simp; unfold isg at h; omega
  clear h
  go_enter Try.func16, Try.ntmps16
  go_wp2_with (go_at_call 22; ((with_reducible refine (is_any _ _).mono ?_); rintro e w' ⟨rfl, rfl⟩))
  go_ret2
  exact ⟨rfl, rfl⟩
set_option maxHeartbeats 400000 in
theorem rwhole_arg (g : Int) (A : Option Addr) (n c : Nat) (w : World) (h : isg g) (h2 : ¬ (1 ≤ n ∧ n ≤ 4)) (hn : n ≤ 9223372036854775807) : Calls Try.prog 16 #[.int .i64 g, .slice A n c] w (Tells 0 2 w) := by
  have h3 : n < 1 ∨ 4 < n := by omega
  have h4 : (decide (isn g) = true ∧ (g != -1) = true) ∨ g = -1 := by
    by_cases hg : g = -1
    · exact .inr hg
    · refine .inl ⟨by simp only [decide_eq_true_eq]; unfold isg at h; unfold isn; omega, by simp [hg]⟩
  clear h h2
  rcases h4 with ⟨d1, d2⟩ | rfl <;> rcases h3 with h3 | h3
  all_goals
    go_enter Try.func16, Try.ntmps16
    go_wp2_with (go_at_call 22; ((with_reducible refine (is_any _ _).mono ?_); rintro e w' ⟨rfl, rfl⟩))
    go_ret2
    exact ⟨rfl, rfl⟩

end Go.Proofs.Ytlfgidkjbjlaiaa.Pnu
