/-
  Plain mathematics of the document's set, whose ranges fall: what is added, cut, counted, found there is what is so of the ranges that rise.
-/
import Derived.Test.YtabchdolafplnaaSpnM
namespace Go.Proofs.Ytabchdolafplnaa.SpnM
set_option linter.unusedSimpArgs false
set_option linter.unusedVariables false

theorem rng_unique {l : List R} (g : Rises l) {r : R} {n : Int} (hr : r ∈ l) (h1 : r.1 ≤ n) (h2 : n ≤ r.2) : has l n = true ∧ rng l n = r := by
  have hh : has l n = true := has_iff.2 ⟨r, hr, h1, h2⟩
  refine ⟨hh, ?_⟩
  obtain ⟨hk, e, _⟩ := rng_of g hh
  rw [e]
  obtain ⟨i, hi, rfl⟩ := mem_at hr
  have h3 := keep_at hk
  rcases Nat.lt_trichotomy (keep_ l n) i with h | h | h
  · have := at_lt g h hi; omega
  · rw [h]
  · have := keep_lt h; omega
theorem has_none {l : List R} {n : Int} (h : ∀ i, i < l.length → ¬ ((at_ l i).1 ≤ n ∧ n ≤ (at_ l i).2)) : has l n = false := by
  cases hh : has l n with
  | false => rfl
  | true =>
    obtain ⟨r, hr, h1, h2⟩ := has_iff.1 hh
    obtain ⟨i, hi, rfl⟩ := mem_at hr
    exact absurd ⟨h1, h2⟩ (h i hi)
theorem has_rev (l : List R) (n : Int) : has l.reverse n = has l n := by unfold has; rw [List.any_reverse]

theorem cnt_snoc (l : List R) (r : R) : cnt (l ++ [r]) = cnt l + (r.2 - r.1 + 1) := by simp [cnt]
theorem cnt_rev (l : List R) : cnt l.reverse = cnt l := by unfold cnt; rw [List.map_reverse, List.sum_reverse]
theorem cnt_bd {l : List R} (h : ∀ r ∈ l, 0 ≤ r.1 ∧ r.1 ≤ r.2 ∧ r.2 ≤ M) : 0 ≤ cnt l ∧ cnt l ≤ l.length * 9007199254740992 := by
  induction l with
  | nil => simp [cnt]
  | cons r t ih =>
    have hr := h r (by simp)
    have ht := ih (fun s hs => h s (by simp [hs]))
    unfold M at hr
    have e : cnt (r :: t) = (r.2 - r.1 + 1) + cnt t := by simp [cnt]
    rw [e, List.length_cons]
    omega
theorem take_succ_at {l : List R} {k : Nat} (h : k < l.length) : l.take (k + 1) = l.take k ++ [at_ l k] := by rw [at_of h, List.take_succ_eq_append_getElem h]

/-- What is cut, range by range. -/
def cutD (l : List R) (b : Int) : List R := l.flatMap (fun r => if b ≤ r.2 then [(max r.1 b, r.2)] else [])
theorem cutD_snoc (l : List R) (b : Int) (r : R) : cutD (l ++ [r]) b = cutD l b ++ (if b ≤ r.2 then [(max r.1 b, r.2)] else []) := by simp [cutD]
theorem cutD_len (l : List R) (b : Int) : (cutD l b).length ≤ l.length := by
  induction l with
  | nil => simp [cutD]
  | cons r t ih =>
    have e : cutD (r :: t) b = (if b ≤ r.2 then [(max r.1 b, r.2)] else []) ++ cutD t b := by simp [cutD]
    rw [e, List.length_append, List.length_cons]
    split <;> simp <;> omega
theorem cutD_high {l : List R} {b : Int} (h : ∀ r ∈ l, r.1 ≤ r.2 ∧ b ≤ r.1) : cutD l b = l := by
  induction l with
  | nil => rfl
  | cons r t ih =>
    have hr := h r (by simp)
    have e : cutD (r :: t) b = (if b ≤ r.2 then [(max r.1 b, r.2)] else []) ++ cutD t b := by simp [cutD]
    rw [e, ih (fun s hs => h s (by simp [hs])), if_pos (by omega), show max r.1 b = r.1 by omega]
    rfl
theorem cut_eq {l : List R} (g : Rises l) (b : Int) : cut l b = cutD l b := by
  induction l with
  | nil => rfl
  | cons r t ih =>
    have e : cutD (r :: t) b = (if b ≤ r.2 then [(max r.1 b, r.2)] else []) ++ cutD t b := by simp [cutD]
    have hr := g.1 r (by simp)
    by_cases h : b ≤ r.2
    · have hk : keep_ (r :: t) b = 0 := by unfold keep_; simp [List.findIdx_cons, h]
      rw [e, if_pos h]
      unfold cut
      rw [hk, cutD_high (fun s hs => ⟨(g.tail.1 s hs).2.1, by have := g.head s hs; omega⟩)]
      rfl
    · have hk : keep_ (r :: t) b = keep_ t b + 1 := by unfold keep_; simp [List.findIdx_cons, h]
      rw [e, if_neg h, List.nil_append, ← ih g.tail]
      unfold cut
      rw [hk]
      rfl
theorem cutD_rev (l : List R) (b : Int) : cutD l.reverse b = (cutD l b).reverse := by
  induction l with
  | nil => rfl
  | cons r t ih =>
    have e : cutD (r :: t) b = (if b ≤ r.2 then [(max r.1 b, r.2)] else []) ++ cutD t b := by simp [cutD]
    rw [List.reverse_cons, cutD_snoc, ih, e, List.reverse_append]
    split <;> rfl
theorem rcut_eq {l : List R} (g : Rises l) (b : Int) : cutD l.reverse b = (cut l b).reverse := by rw [cutD_rev, cut_eq g]

/-- What is added, to ranges that fall: x is what is put, or joined; put: it was put. -/
def addD : List R → R → Bool → List R
  | [], x, put => if put then [] else [x]
  | r :: t, x, put => if x.2 + 1 < r.1 then r :: addD t x put else if r.2 < x.1 - 1 then (if put then [] else [x]) ++ r :: addD t x true else addD t (min x.1 r.1, max x.2 r.2) put
/-- Ranges that fall. -/
def Falls (l : List R) : Prop := (∀ r ∈ l, 0 ≤ r.1 ∧ r.1 ≤ r.2 ∧ r.2 ≤ M) ∧ l.Pairwise (fun r s => s.2 + 1 < r.1)
theorem falls_rev {l : List R} : Falls l.reverse ↔ Rises l := by
  unfold Falls Rises
  rw [List.pairwise_reverse]
  simp
theorem Falls.head {r : R} {t : List R} (g : Falls (r :: t)) : ∀ s ∈ t, s.2 + 1 < r.1 := (List.pairwise_cons.1 g.2).1
theorem Falls.tail {r : R} {t : List R} (g : Falls (r :: t)) : Falls t := ⟨fun s h => g.1 s (List.mem_cons_of_mem _ h), (List.pairwise_cons.1 g.2).2⟩
/-- Behind what is put nothing is joined any more. -/
theorem addD_put {l : List R} (g : ∀ r ∈ l, r.1 ≤ r.2) {x : R} (hx : x.1 ≤ x.2) (h : ∀ r ∈ l, r.2 < x.1 - 1) : addD l x true = l := by
  induction l with
  | nil => rfl
  | cons r t ih =>
    have hr := h r (by simp)
    have hg := g r (by simp)
    rw [addD, if_neg (by omega), if_pos hr, ih (fun s hs => g s (by simp [hs])) (fun s hs => h s (by simp [hs]))]
    rfl
theorem addD_spec {l : List R} : ∀ {x : R}, Falls l → 0 ≤ x.1 → x.1 ≤ x.2 → x.2 ≤ M →
    Falls (addD l x false) ∧ (∀ n, mem (addD l x false) n ↔ mem l n ∨ (x.1 ≤ n ∧ n ≤ x.2)) ∧ (∀ b, (∀ r ∈ l, r.2 + 1 < b) → x.2 + 1 < b → ∀ r ∈ addD l x false, r.2 + 1 < b) := by
  induction l with
  | nil =>
    intro x g h0 h1 h2
    refine ⟨⟨fun r hr => ?_, by simp [addD]⟩, fun n => ?_, fun b _ hb r hr => ?_⟩
    · simp [addD] at hr; subst hr; exact ⟨h0, h1, h2⟩
    · simp [addD, mem]
    · simp [addD] at hr; subst hr; exact hb
  | cons r t ih =>
    intro x g h0 h1 h2
    have hr := g.1 r (by simp)
    rw [addD]
    by_cases ha : x.2 + 1 < r.1
    · rw [if_pos ha]
      obtain ⟨i1, i2, i3⟩ := ih g.tail h0 h1 h2
      refine ⟨⟨fun s hs => ?_, List.pairwise_cons.2 ⟨i3 r.1 (fun s hs => g.head s hs) ha, i1.2⟩⟩, fun n => ?_, fun b hl hb s hs => ?_⟩
      · rcases List.mem_cons.1 hs with rfl | hs
        · exact hr
        · exact i1.1 s hs
      · rw [mem_cons, i2, mem_cons]
        constructor
        · rintro (h | h | h); exact .inl (.inl h); exact .inl (.inr h); exact .inr h
        · rintro ((h | h) | h); exact .inl h; exact .inr (.inl h); exact .inr (.inr h)
      · rcases List.mem_cons.1 hs with rfl | hs
        · exact hl _ (by simp)
        · exact i3 b (fun u hu => hl u (by simp [hu])) hb s hs
    · rw [if_neg ha]
      by_cases hb : r.2 < x.1 - 1
      · rw [if_pos hb]
        have hp : addD t x true = t := addD_put (fun s hs => (g.tail.1 s hs).2.1) h1 (fun s hs => by have := g.head s hs; omega)
        rw [hp]
        refine ⟨⟨fun s hs => ?_, ?_⟩, fun n => ?_, fun c hl hc s hs => ?_⟩
        · simp at hs; rcases hs with rfl | hs | hs
          · exact ⟨h0, h1, h2⟩
          · subst hs; exact hr
          · exact g.1 s (by simp [hs])
        · simp only [Bool.false_eq_true, if_false, List.singleton_append]
          refine List.pairwise_cons.2 ⟨fun s hs => ?_, g.2⟩
          rcases List.mem_cons.1 hs with rfl | hs
          · omega
          · have := g.head s hs; omega
        · simp only [Bool.false_eq_true, if_false, List.singleton_append]
          rw [mem_cons]
          constructor
          · rintro (h | h); exact .inr h; exact .inl h
          · rintro (h | h); exact .inr h; exact .inl h
        · simp at hs; rcases hs with rfl | hs | hs
          · exact hc
          · subst hs; exact hl _ (by simp)
          · exact hl s (by simp [hs])
      · rw [if_neg hb]
        obtain ⟨i1, i2, i3⟩ := ih (x := (min x.1 r.1, max x.2 r.2)) g.tail (by simp only; omega) (by simp only; omega) (by simp only; omega)
        refine ⟨i1, fun n => ?_, fun c hl hc s hs => i3 c (fun u hu => hl u (by simp [hu])) (by have := hl r (by simp); simp only; omega) s hs⟩
        rw [i2, mem_cons]
        simp only
        constructor
        · rintro (h | h)
          · exact .inl (.inr h)
          · rcases Int.lt_or_le n r.1 with h3 | h3
            · exact .inr (by omega)
            · rcases Int.lt_or_le r.2 n with h4 | h4
              · exact .inr (by omega)
              · exact .inl (.inl ⟨h3, h4⟩)
        · rintro ((h | h) | h)
          · exact .inr (by omega)
          · exact .inl h
          · exact .inr (by omega)
theorem radd_eq {l : List R} (g : Rises l) {lo hi : Int} (h0 : 0 ≤ lo) (h1 : lo ≤ hi) (h2 : hi ≤ M) : addD l.reverse (lo, hi) false = (add l lo hi).reverse := by
  obtain ⟨i1, i2, _⟩ := addD_spec (l := l.reverse) (x := (lo, hi)) (falls_rev.2 g) h0 h1 h2
  have g2 : Rises (addD l.reverse (lo, hi) false).reverse := by rw [← falls_rev, List.reverse_reverse]; exact i1
  have := unique g2 (add_good g h0 h1 h2) (fun n => by rw [mem_reverse, i2, mem_add g h1, mem_reverse])
  rw [← this, List.reverse_reverse]
theorem addD_len1 : ∀ (t : List R) (x : R), (addD t x true).length ≤ t.length := by
  intro t
  induction t with
  | nil => intro x; simp [addD]
  | cons s u ih =>
    intro x
    have h1 := ih x
    have h2 := ih (min x.1 s.1, max x.2 s.2)
    rw [addD]
    split
    · simp only [List.length_cons]; omega
    · split
      · simp only [if_true, List.nil_append, List.length_cons]; omega
      · simp only [List.length_cons]; omega
theorem addD_len : ∀ (l : List R) (x : R) (put : Bool), (addD l x put).length ≤ l.length + 1 := by
  intro l
  induction l with
  | nil => intro x put; cases put <;> simp [addD]
  | cons r t ih =>
    intro x put
    have h1 := ih x put
    have h2 := ih (min x.1 r.1, max x.2 r.2) put
    have h3 := addD_len1 t x
    rw [addD]
    split
    · simp only [List.length_cons]; omega
    · split
      · cases put <;> simp <;> omega
      · simp only [List.length_cons]; omega

end Go.Proofs.Ytabchdolafplnaa.SpnM
