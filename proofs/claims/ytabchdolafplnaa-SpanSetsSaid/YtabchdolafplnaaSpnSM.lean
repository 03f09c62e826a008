/-
  Plain mathematics for the law SpanSets: what is added one behind the other; how many numbers there are; the next one that is missing. Nothing here speaks of a program.
-/
import Derived.Test.YtabchdolafplnaaSpnM
namespace Go.Proofs.Ytabchdolafplnaa.SpnM
set_option linter.unusedVariables false
set_option linter.unusedSimpArgs false

/-- Ranges that are added one behind the other. -/
def addsTo (l rows : List R) : List R := rows.foldl (fun l r => add l r.1 r.2) l
def adds (rows : List R) : List R := addsTo [] rows
def oks (rows : List R) : Prop := ∀ r ∈ rows, 0 ≤ r.1 ∧ r.1 ≤ r.2 ∧ r.2 ≤ M
theorem adds_snoc (rows : List R) (r : R) : adds (rows ++ [r]) = add (adds rows) r.1 r.2 := by simp [adds, addsTo, List.foldl_append]
theorem addsTo_good {l : List R} (g : Rises l) {rows : List R} (h : oks rows) : Rises (addsTo l rows) := by
  induction rows generalizing l with
  | nil => exact g
  | cons r t ih =>
    have hr := h r (by simp)
    exact ih (add_good g hr.1 hr.2.1 hr.2.2) (fun s hs => h s (by simp [hs]))
theorem adds_good {rows : List R} (h : oks rows) : Rises (adds rows) := addsTo_good good_nil h
theorem mem_addsTo {l : List R} (g : Rises l) {rows : List R} (h : oks rows) (n : Int) : mem (addsTo l rows) n ↔ mem l n ∨ ∃ r ∈ rows, r.1 ≤ n ∧ n ≤ r.2 := by
  induction rows generalizing l with
  | nil => simp [addsTo]
  | cons r t ih =>
    have hr := h r (by simp)
    show mem (addsTo (add l r.1 r.2) t) n ↔ _
    rw [ih (add_good g hr.1 hr.2.1 hr.2.2) (fun s hs => h s (by simp [hs])), mem_add g hr.2.1]
    constructor
    · rintro ((h1 | h1) | ⟨s, hs, h2⟩)
      · exact .inl h1
      · exact .inr ⟨r, by simp, h1⟩
      · exact .inr ⟨s, by simp [hs], h2⟩
    · rintro (h1 | ⟨s, hs, h2⟩)
      · exact .inl (.inl h1)
      · rcases List.mem_cons.1 hs with rfl | hs
        · exact .inl (.inr h2)
        · exact .inr ⟨s, hs, h2⟩
theorem mem_adds {rows : List R} (h : oks rows) (n : Int) : mem (adds rows) n ↔ ∃ r ∈ rows, r.1 ≤ n ∧ n ≤ r.2 := by
  unfold adds
  rw [mem_addsTo good_nil h]
  constructor
  · rintro (h1 | h1)
    · exact absurd h1 mem_nil
    · exact h1
  · exact .inr
theorem addsTo_len {l : List R} (g : Rises l) {rows : List R} (h : oks rows) : (addsTo l rows).length ≤ l.length + rows.length := by
  induction rows generalizing l with
  | nil => simp [addsTo]
  | cons r t ih =>
    have hr := h r (by simp)
    have h1 := ih (add_good g hr.1 hr.2.1 hr.2.2) (fun s hs => h s (by simp [hs]))
    have h2 := from_le_to g hr.2.1
    have h3 := to_le l r.2
    rw [add_length] at h1
    show (addsTo (add l r.1 r.2) t).length ≤ _
    simp only [List.length_cons]
    omega
theorem adds_len {rows : List R} (h : oks rows) : (adds rows).length ≤ rows.length := by
  have := addsTo_len good_nil h
  simpa [adds] using this
/-- Whatever the order, and however often. -/
theorem adds_eq {rows rows' : List R} (h : oks rows) (h' : oks rows') (he : ∀ r, r ∈ rows ↔ r ∈ rows') : adds rows = adds rows' :=
  unique (adds_good h) (adds_good h') (fun n => by
    rw [mem_adds h, mem_adds h']
    constructor
    · rintro ⟨r, hr, h1⟩; exact ⟨r, (he r).1 hr, h1⟩
    · rintro ⟨r, hr, h1⟩; exact ⟨r, (he r).2 hr, h1⟩)
/-- What is added is answered with 0, where there is room for one more. -/
theorem add_room {room : Int} {l : List R} (g : Rises l) {lo hi : Int} (h0 : 0 ≤ lo) (h1 : lo ≤ hi) (h2 : hi ≤ M) (hr : (l.length : Int) + 1 ≤ room) : addErr room l lo hi = 0 ∧ addTo room l lo hi = add l lo hi := by
  have h3 := from_le_to g h1
  have h4 := to_le l hi
  have h5 := add_length (l := l) lo hi
  have e : addErr room l lo hi = 0 := by
    unfold addErr
    rw [if_pos ⟨⟨h0, by omega⟩, ⟨by omega, h2⟩, h1⟩, if_neg (by rw [h5]; omega)]
  exact ⟨e, by unfold addTo; rw [if_pos e]⟩

/-- A sum over the numbers below N. -/
def tot (w : Nat → Int) : Nat → Int
  | 0 => 0
  | n + 1 => tot w n + w n
theorem tot_add (w v : Nat → Int) : ∀ n, tot (fun i => w i + v i) n = tot w n + tot v n
  | 0 => by simp [tot]
  | n + 1 => by simp only [tot]; rw [tot_add w v n]; omega
theorem tot_congr {w v : Nat → Int} : ∀ {n : Nat}, (∀ i, i < n → w i = v i) → tot w n = tot v n
  | 0, _ => rfl
  | n + 1, h => by simp only [tot]; rw [tot_congr (n := n) (fun i hi => h i (by omega)), h n (by omega)]
theorem tot_zero : ∀ n, tot (fun _ => 0) n = 0
  | 0 => rfl
  | n + 1 => by simp only [tot]; rw [tot_zero n]; rfl
theorem tot_range {a b : Int} (h0 : 0 ≤ a) (h1 : a ≤ b + 1) : ∀ N : Nat, tot (fun n => if a ≤ (n : Int) ∧ (n : Int) ≤ b then 1 else 0) N = if (N : Int) ≤ a then 0 else min (b + 1) N - a
  | 0 => by rw [if_pos (by simpa using h0)]; rfl
  | N + 1 => by
    simp only [tot]
    rw [tot_range h0 h1 N]
    by_cases h2 : (N : Int) ≤ a
    · rw [if_pos h2]
      by_cases h3 : a ≤ (N : Int) ∧ (N : Int) ≤ b
      · rw [if_pos h3, if_neg (by push_cast; omega)]; push_cast; omega
      · rw [if_neg h3]
        by_cases h4 : ((N + 1 : Nat) : Int) ≤ a
        · rw [if_pos h4]; rfl
        · rw [if_neg h4]; push_cast at *; omega
    · rw [if_neg h2]
      have h5 : ¬ ((N + 1 : Nat) : Int) ≤ a := by push_cast; omega
      rw [if_neg h5]
      by_cases h3 : a ≤ (N : Int) ∧ (N : Int) ≤ b
      · rw [if_pos h3]; push_cast; omega
      · rw [if_neg h3]; push_cast; omega
def ind (l : List R) (n : Nat) : Int := if has l (n : Int) = true then 1 else 0
theorem not_mem {l : List R} {n : Int} : has l n = false ↔ ¬ mem l n := by
  rw [← has_iff]; cases has l n <;> simp
theorem ind_cons {r : R} {t : List R} (g : Rises (r :: t)) (n : Nat) : ind (r :: t) n = (if r.1 ≤ (n : Int) ∧ (n : Int) ≤ r.2 then 1 else 0) + ind t n := by
  unfold ind
  by_cases h1 : r.1 ≤ (n : Int) ∧ (n : Int) ≤ r.2
  · have h2 : has (r :: t) (n : Int) = true := has_iff.2 (mem_cons.2 (.inl h1))
    have h3 : ¬ has t (n : Int) = true := by
      intro h
      obtain ⟨s, hs, h4⟩ := has_iff.1 h
      have := g.head s hs
      omega
    rw [if_pos h2, if_pos h1, if_neg h3]; rfl
  · rw [if_neg h1]
    by_cases h2 : has t (n : Int) = true
    · have h3 : has (r :: t) (n : Int) = true := has_iff.2 (mem_cons.2 (.inr (has_iff.1 h2)))
      rw [if_pos h3, if_pos h2]; rfl
    · have h3 : ¬ has (r :: t) (n : Int) = true := by
        intro h
        rcases mem_cons.1 (has_iff.1 h) with h | h
        · exact h1 h
        · exact h2 (has_iff.2 h)
      rw [if_neg h3, if_neg h2]; rfl
/-- How many numbers a set has. -/
theorem tot_cnt {l : List R} (g : Rises l) {N : Nat} (h : ∀ r ∈ l, r.2 < N) : tot (ind l) N = cnt l := by
  induction l with
  | nil => rw [tot_congr (v := fun _ => 0) (fun i _ => by simp [ind, has]), tot_zero]; simp [cnt]
  | cons r t ih =>
    have hr := g.1 r (by simp)
    have hN := h r (by simp)
    rw [tot_congr (fun i _ => ind_cons g i), tot_add, ih g.tail (fun s hs => h s (by simp [hs])), tot_range hr.1 (by omega), if_neg (by omega)]
    have : cnt (r :: t) = (r.2 - r.1 + 1) + cnt t := by simp [cnt]
    rw [this]
    omega

/-- Behind a range a number is missing. -/
theorem gap_behind {l : List R} (g : Rises l) {i : Nat} (hi : i < l.length) : has l ((at_ l i).2 + 1) = false := by
  rw [not_mem]
  rintro ⟨s, hs, h1, h2⟩
  obtain ⟨j, hj, rfl⟩ := mem_at hs
  rcases Nat.lt_trichotomy i j with h | h | h
  · have := at_lt g h hj; omega
  · subst h; omega
  · have := at_lt g h hi
    have := at_bd g hi
    omega
/-- The next number that is missing, counted one by one. -/
theorem next_is {l : List R} (g : Rises l) (h : ∀ r ∈ l, r.2 ≤ 99) {n m : Nat} (hn : n ≤ m) (hn2 : n ≤ 100) (h1 : ∀ i : Nat, n ≤ i → i < m → has l (i : Int) = true) (h2 : m = 101 ∨ has l (m : Int) = false) : next l (n : Int) = (m : Int) := by
  have hnum : num (n : Int) := ⟨by omega, by unfold M; omega⟩
  unfold next
  rw [if_pos hnum]
  by_cases hh : has l (n : Int) = true
  · obtain ⟨k1, k2, k3, k4⟩ := rng_of g hh
    have h99 := h _ (at_mem k1)
    rw [← k2] at h99
    rw [if_pos hh, if_neg (by unfold M; omega)]
    have hgap := gap_behind g k1
    rw [← k2] at hgap
    obtain ⟨b, hb⟩ : ∃ b : Nat, (rng l (n : Int)).2 = (b : Int) := ⟨((rng l (n : Int)).2).toNat, by omega⟩
    rw [hb] at hgap h99 k4 ⊢
    have hm1 : m ≤ b + 1 := by
      rcases Nat.lt_or_ge (b + 1) m with hlt | hge
      · have := h1 (b + 1) (by omega) hlt
        rw [show ((b + 1 : Nat) : Int) = (b : Int) + 1 by push_cast; rfl, hgap] at this
        cases this
      · exact hge
    have hm2 : b + 1 ≤ m := by
      rcases Nat.lt_or_ge m (b + 1) with hlt | hge
      · rcases h2 with h2 | h2
        · omega
        · have : has l (m : Int) = true := has_iff.2 ⟨_, at_mem k1, by rw [← k2]; omega, by rw [← k2, hb]; omega⟩
          rw [this] at h2; cases h2
      · exact hge
    omega
  · rw [if_neg hh]
    rcases Nat.lt_or_ge n m with hlt | hge
    · exact absurd (h1 n (Nat.le_refl _) hlt) hh
    · omega

end Go.Proofs.Ytabchdolafplnaa.SpnM
