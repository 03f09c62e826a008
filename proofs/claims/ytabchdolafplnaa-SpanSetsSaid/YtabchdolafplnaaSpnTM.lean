/-
  Plain mathematics for SpanTouch: what is there is added again, what is below all is cut, what is missing is added.
-/
import Derived.Test.YtabchdolafplnaaSpnM
namespace Go.Proofs.Ytabchdolafplnaa.SpnM
set_option linter.unusedSimpArgs false
set_option linter.unusedVariables false

/-- To add what is there changes nothing. -/
theorem add_there {l : List R} (g : Rises l) {lo hi : Int} (h0 : 0 ≤ lo) (h1 : lo ≤ hi) (h2 : hi ≤ M) (h : ∀ n, lo ≤ n → n ≤ hi → mem l n) : add l lo hi = l := by
  refine unique (add_good g h0 h1 h2) g fun n => ?_
  rw [mem_add g h1]
  constructor
  · rintro (h3 | ⟨h3, h4⟩)
    · exact h3
    · exact h n h3 h4
  · exact .inl
theorem addTo_there {room : Int} {l : List R} (g : Rises l) (hr : (l.length : Int) ≤ room) {lo hi : Int} (h0 : 0 ≤ lo) (h1 : lo ≤ hi) (h2 : hi ≤ M) (h : ∀ n, lo ≤ n → n ≤ hi → mem l n) : addErr room l lo hi = 0 ∧ addTo room l lo hi = l := by
  have ha := add_there g h0 h1 h2 h
  have hE : addErr room l lo hi = 0 := by unfold addErr; rw [if_pos ⟨⟨h0, by omega⟩, ⟨by omega, h2⟩, h1⟩, ha, if_neg (by omega)]
  exact ⟨hE, by unfold addTo; rw [if_pos hE, ha]⟩
theorem range_there {l : List R} {k : Nat} (hk : k < l.length) : ∀ n, (at_ l k).1 ≤ n → n ≤ (at_ l k).2 → mem l n := fun n h1 h2 => ⟨_, at_mem hk, h1, h2⟩
theorem end_there {l : List R} (g : Rises l) {k : Nat} (hk : k < l.length) : ∀ n, (at_ l k).2 ≤ n → n ≤ (at_ l k).2 → mem l n := fun n h1 h2 => ⟨_, at_mem hk, by have := at_bd g hk; omega, h2⟩

/-- To cut what is below all changes nothing. -/
theorem mn_zero {l : List R} (h : l.length = 0) : mn l = -1 := by rw [List.eq_nil_of_length_eq_zero h]; rfl
theorem mn_at0 {l : List R} (h : 0 < l.length) : mn l = (at_ l 0).1 := by cases l with
  | nil => simp at h
  | cons r t => rfl
theorem cut_low {l : List R} (g : Rises l) : cutErr (max (mn l) 0) = 0 ∧ cutTo l (max (mn l) 0) = l := by
  have hn : num (max (mn l) 0) := by
    rcases Nat.eq_zero_or_pos l.length with h | h
    · rw [mn_zero h]; exact ⟨by omega, by unfold M; omega⟩
    · rw [mn_at0 h]; have := at_bd g h; exact ⟨by omega, by unfold M at *; omega⟩
  have hc : cut l (max (mn l) 0) = l := by
    refine unique (cut_good g hn) g fun n => ?_
    rw [mem_cut g]
    constructor
    · exact fun h => h.1
    · intro h
      refine ⟨h, ?_⟩
      obtain ⟨r, hr, h1, h2⟩ := h
      obtain ⟨i, hi, rfl⟩ := mem_at hr
      rw [mn_at0 (by omega)]
      have := at_mono1 g (Nat.zero_le i) hi
      have := at_bd g (k := 0) (by omega)
      omega
  exact ⟨by unfold cutErr; rw [if_pos hn], by unfold cutTo; rw [if_pos hn, hc]⟩

/-- What is missing between the j-th range and the next one is added: they become one. -/
def joined (l : List R) (j : Nat) : List R := l.take j ++ ((at_ l j).1, (at_ l (j + 1)).2) :: l.drop (j + 2)
theorem add_between {l : List R} (g : Rises l) {j : Nat} (hj : j + 1 < l.length) : add l ((at_ l j).2 + 1) ((at_ l (j + 1)).1 - 1) = joined l j := by
  have h0 := at_bd g (k := j) (by omega)
  have h1 := at_bd g (k := j + 1) hj
  have h2 := at_lt g (i := j) (k := j + 1) (by omega) hj
  have hf : from_ l ((at_ l j).2 + 1) = j := by
    unfold from_
    refine find_eq (by omega) (fun i hi => ?_) (fun _ => ?_)
    · have := at_lt g hi (k := j) (by omega); simp; omega
    · simp
  have ht : to_ l ((at_ l (j + 1)).1 - 1) = j + 2 := by
    unfold to_
    refine find_eq (by omega) (fun i hi => ?_) (fun hlt => ?_)
    · have := at_mono1 g (i := i) (k := j + 1) (by omega) hj; simp; omega
    · have := at_lt g (i := j + 1) (k := j + 2) (by omega) hlt; simp; omega
  unfold add whole joined
  rw [hf, ht, if_pos (by omega), show j + 2 - 1 = j + 1 by omega]
  congr 2
  exact Prod.ext (by simp only; omega) (by simp only; omega)
theorem addTo_between {room : Int} {l : List R} (g : Rises l) (hr : (l.length : Int) ≤ room) {j : Nat} (hj : j + 1 < l.length) :
    addErr room l ((at_ l j).2 + 1) ((at_ l (j + 1)).1 - 1) = 0 ∧ addTo room l ((at_ l j).2 + 1) ((at_ l (j + 1)).1 - 1) = joined l j := by
  have h0 := at_bd g (k := j) (by omega)
  have h1 := at_bd g (k := j + 1) hj
  have h2 := at_lt g (i := j) (k := j + 1) (by omega) hj
  have ha := add_between g hj
  have hl : (joined l j).length = l.length - 1 := by simp [joined]; omega
  have hE : addErr room l ((at_ l j).2 + 1) ((at_ l (j + 1)).1 - 1) = 0 := by unfold addErr; rw [if_pos ⟨⟨by omega, by omega⟩, ⟨by omega, by omega⟩, by omega⟩, ha, hl, if_neg (by omega)]
  exact ⟨hE, by unfold addTo; rw [if_pos hE, ha]⟩
theorem joined_length {l : List R} {j : Nat} (hj : j + 1 < l.length) : (joined l j).length = l.length - 1 := by simp [joined]; omega
/-- Backwards: the k-th from the end. -/
theorem at_rev {l : List R} {k : Nat} (hk : k < l.length) : at_ l.reverse k = at_ l (l.length - 1 - k) := by
  rw [at_of (by simpa using hk), at_of (by omega), List.getElem_reverse]
theorem joined_at {l : List R} {j : Nat} (hj : j + 1 < l.length) : at_ (joined l j) j = ((at_ l j).1, (at_ l (j + 1)).2) := by
  unfold joined at_
  rw [List.getD_eq_getElem?_getD, List.getElem?_append_right (by simp; omega)]
  simp [show j - min j l.length = 0 by omega]

end Go.Proofs.Ytabchdolafplnaa.SpnM
