/-
  Plain mathematics of sets of numbers as ranges: what is added, cut, found; a set is known by its numbers. Nothing here speaks of a program.
-/
namespace Go.Proofs.Ytdfjceghhjecaaa.SpnM
set_option linter.unusedSimpArgs false

abbrev R := Int × Int
def M : Int := 9007199254740991
def num (n : Int) : Prop := 0 ≤ n ∧ n ≤ M
instance (n : Int) : Decidable (num n) := by unfold num; infer_instance
/-- Ranges rise, do not touch, and have a number each. -/
def Rises (l : List R) : Prop := (∀ r ∈ l, 0 ≤ r.1 ∧ r.1 ≤ r.2 ∧ r.2 ≤ M) ∧ l.Pairwise (fun r s => r.2 + 1 < s.1)
/-- Is a number in one of the ranges? -/
def mem (l : List R) (n : Int) : Prop := ∃ r ∈ l, r.1 ≤ n ∧ n ≤ r.2
/-- The k-th range (0 to 0, if there is none). -/
def at_ (l : List R) (k : Nat) : R := l.getD k (0, 0)

set_option maxRecDepth 100000 in
theorem at_of {l : List R} {k : Nat} (h : k < l.length) : at_ l k = l[k] := by simp [at_, h]
set_option maxRecDepth 100000 in
theorem at_mem {l : List R} {k : Nat} (h : k < l.length) : at_ l k ∈ l := by rw [at_of h]; exact List.getElem_mem h
set_option maxRecDepth 100000 in
theorem at_some {l : List R} {k : Nat} (h : k < l.length) : l[k]? = some (at_ l k) := by rw [at_of h]; exact List.getElem?_eq_getElem h
set_option maxRecDepth 100000 in
theorem at_bd {l : List R} (g : Rises l) {k : Nat} (h : k < l.length) : 0 ≤ (at_ l k).1 ∧ (at_ l k).1 ≤ (at_ l k).2 ∧ (at_ l k).2 ≤ M := g.1 _ (at_mem h)
set_option maxRecDepth 100000 in
theorem at_lt {l : List R} (g : Rises l) {i k : Nat} (hik : i < k) (h : k < l.length) : (at_ l i).2 + 1 < (at_ l k).1 := by
  rw [at_of h, at_of (by omega)]; exact List.pairwise_iff_getElem.1 g.2 i k (by omega) h hik
set_option maxRecDepth 100000 in
theorem at_drop (l : List R) (i k : Nat) : at_ (l.drop i) k = at_ l (i + k) := by simp [at_, List.getD, List.getElem?_drop]
set_option maxRecDepth 100000 in
theorem at_take {l : List R} {i k : Nat} (h : k < i) : at_ (l.take i) k = at_ l k := by simp [at_, List.getD, List.getElem?_take, h]

set_option maxRecDepth 100000 in
theorem good_nil : Rises [] := ⟨(fun _ h => by cases h), List.Pairwise.nil⟩
set_option maxRecDepth 100000 in
theorem Rises.tail {r : R} {t : List R} (g : Rises (r :: t)) : Rises t := ⟨fun s h => g.1 s (List.mem_cons_of_mem _ h), (List.pairwise_cons.1 g.2).2⟩
set_option maxRecDepth 100000 in
theorem Rises.head {r : R} {t : List R} (g : Rises (r :: t)) : ∀ s ∈ t, r.2 + 1 < s.1 := (List.pairwise_cons.1 g.2).1
set_option maxRecDepth 100000 in
theorem mem_cons {r : R} {t : List R} {n : Int} : mem (r :: t) n ↔ (r.1 ≤ n ∧ n ≤ r.2) ∨ mem t n := by simp [mem]
set_option maxRecDepth 100000 in
theorem mem_nil {n : Int} : ¬ mem [] n := by rintro ⟨_, h, _⟩; cases h
set_option maxRecDepth 100000 in
theorem mem_append {a b : List R} {n : Int} : mem (a ++ b) n ↔ mem a n ∨ mem b n := by
  simp only [mem, List.mem_append]
  constructor
  · rintro ⟨r, h | h, x⟩; exact .inl ⟨r, h, x⟩; exact .inr ⟨r, h, x⟩
  · rintro (⟨r, h, x⟩ | ⟨r, h, x⟩); exact ⟨r, .inl h, x⟩; exact ⟨r, .inr h, x⟩
set_option maxRecDepth 100000 in
theorem mem_reverse {a : List R} {n : Int} : mem a.reverse n ↔ mem a n := by simp [mem]
set_option maxRecDepth 100000 in
theorem mem_num {l : List R} (g : Rises l) {n : Int} (h : mem l n) : num n := by
  obtain ⟨r, hr, h1, h2⟩ := h; have := g.1 r hr; exact ⟨by omega, by omega⟩

set_option maxRecDepth 100000 in
/-- A set is known by its numbers. -/
theorem unique : ∀ {l m : List R}, Rises l → Rises m → (∀ n, mem l n ↔ mem m n) → l = m := by
  intro l
  induction l with
  | nil =>
    intro m _ gm h
    cases m with
    | nil => rfl
    | cons r t => have hr := gm.1 r (by simp); exact absurd ((h r.1).2 ⟨r, by simp, by omega, by omega⟩) mem_nil
  | cons r t ih =>
    intro m gl gm h
    cases m with
    | nil => have hr := gl.1 r (by simp); exact absurd ((h r.1).1 ⟨r, by simp, by omega, by omega⟩) mem_nil
    | cons s u =>
      have hr := gl.1 r (by simp)
      have hs := gm.1 s (by simp)
      have lo1 : s.1 ≤ r.1 := by
        rcases mem_cons.1 ((h r.1).1 ⟨r, by simp, by omega, by omega⟩) with h1 | ⟨x, hx, h1, h2⟩
        · omega
        · have := gm.head x hx; omega
      have lo2 : r.1 ≤ s.1 := by
        rcases mem_cons.1 ((h s.1).2 ⟨s, by simp, by omega, by omega⟩) with h1 | ⟨x, hx, h1, h2⟩
        · omega
        · have := gl.head x hx; omega
      have hi1 : ¬ r.2 < s.2 := fun hlt => by
        rcases mem_cons.1 ((h (r.2 + 1)).2 ⟨s, by simp, by omega, by omega⟩) with h1 | ⟨x, hx, h1, h2⟩
        · omega
        · have := gl.head x hx; omega
      have hi2 : ¬ s.2 < r.2 := fun hlt => by
        rcases mem_cons.1 ((h (s.2 + 1)).1 ⟨r, by simp, by omega, by omega⟩) with h1 | ⟨x, hx, h1, h2⟩
        · omega
        · have := gm.head x hx; omega
      have e : r = s := Prod.ext (by omega) (by omega)
      subst e
      have ht : ∀ n, mem t n ↔ mem u n := fun n => by
        constructor
        · rintro ⟨x, hx, h1, h2⟩
          have hb := gl.head x hx
          rcases mem_cons.1 ((h n).1 (mem_cons.2 (.inr ⟨x, hx, h1, h2⟩))) with h3 | h3
          · omega
          · exact h3
        · rintro ⟨x, hx, h1, h2⟩
          have hb := gm.head x hx
          rcases mem_cons.1 ((h n).2 (mem_cons.2 (.inr ⟨x, hx, h1, h2⟩))) with h3 | h3
          · omega
          · exact h3
      rw [ih gl.tail gm.tail ht]

set_option maxRecDepth 100000 in
/-- What is found first: as sort.Search finds it. -/
theorem find_lt {p : R → Bool} {l : List R} {i : Nat} (h : i < l.findIdx p) : p (at_ l i) = false := by
  have hl : i < l.length := Nat.lt_of_lt_of_le h List.findIdx_le_length
  rw [at_of hl]; simpa using List.not_of_lt_findIdx h
set_option maxRecDepth 100000 in
theorem find_at {p : R → Bool} {l : List R} (h : l.findIdx p < l.length) : p (at_ l (l.findIdx p)) = true := by
  rw [at_of h]; exact List.findIdx_getElem
set_option maxRecDepth 100000 in
theorem find_eq {p : R → Bool} {l : List R} {k : Nat} (hk : k ≤ l.length) (h1 : ∀ i, i < k → p (at_ l i) = false) (h2 : k < l.length → p (at_ l k) = true) : l.findIdx p = k := by
  rcases Nat.lt_trichotomy (l.findIdx p) k with h | h | h
  · have := find_at (p := p) (l := l) (by omega); rw [h1 _ h] at this; cases this
  · exact h
  · have := find_lt h; rw [h2 (Nat.lt_of_lt_of_le h List.findIdx_le_length)] at this; cases this
set_option maxRecDepth 100000 in
theorem find_le (p : R → Bool) (l : List R) : l.findIdx p ≤ l.length := List.findIdx_le_length

/-- Where what is added meets the first range that it joins, and the first one beyond. -/
def from_ (l : List R) (lo : Int) : Nat := l.findIdx (fun r => decide (lo - 1 ≤ r.2))
def to_ (l : List R) (hi : Int) : Nat := l.findIdx (fun r => decide (hi + 1 < r.1))
set_option maxRecDepth 100000 in
theorem from_le (l : List R) (lo : Int) : from_ l lo ≤ l.length := find_le _ _
set_option maxRecDepth 100000 in
theorem to_le (l : List R) (hi : Int) : to_ l hi ≤ l.length := find_le _ _
set_option maxRecDepth 100000 in
theorem from_lt {l : List R} {lo : Int} {i : Nat} (h : i < from_ l lo) : (at_ l i).2 + 1 < lo := by have := find_lt h; simp at this; omega
set_option maxRecDepth 100000 in
theorem from_at {l : List R} {lo : Int} (h : from_ l lo < l.length) : lo - 1 ≤ (at_ l (from_ l lo)).2 := of_decide_eq_true (find_at (p := fun r => decide (lo - 1 ≤ r.2)) h)
set_option maxRecDepth 100000 in
theorem to_lt {l : List R} {hi : Int} {i : Nat} (h : i < to_ l hi) : (at_ l i).1 ≤ hi + 1 := by have := find_lt h; simp at this; omega
set_option maxRecDepth 100000 in
theorem to_at {l : List R} {hi : Int} (h : to_ l hi < l.length) : hi + 1 < (at_ l (to_ l hi)).1 := of_decide_eq_true (find_at (p := fun r => decide (hi + 1 < r.1)) h)
set_option maxRecDepth 100000 in
theorem at_mono1 {l : List R} (g : Rises l) {i k : Nat} (h : i ≤ k) (hk : k < l.length) : (at_ l i).1 ≤ (at_ l k).1 := by
  rcases Nat.lt_or_ge i k with h1 | h1
  · have := at_lt g h1 hk; have := at_bd g (k := i) (by omega); omega
  · rw [show i = k by omega]; exact Int.le_refl _
set_option maxRecDepth 100000 in
theorem at_mono2 {l : List R} (g : Rises l) {i k : Nat} (h : i ≤ k) (hk : k < l.length) : (at_ l i).2 ≤ (at_ l k).2 := by
  rcases Nat.lt_or_ge i k with h1 | h1
  · have := at_lt g h1 hk; have := at_bd g hk; omega
  · rw [show i = k by omega]; exact Int.le_refl _
set_option maxRecDepth 100000 in
theorem from_ge {l : List R} (g : Rises l) {lo : Int} {i : Nat} (h : from_ l lo ≤ i) (hi : i < l.length) : lo - 1 ≤ (at_ l i).2 := by
  have h1 := from_at (l := l) (lo := lo) (by omega); have := at_mono2 g h hi; omega
set_option maxRecDepth 100000 in
theorem to_ge {l : List R} (g : Rises l) {b : Int} {i : Nat} (h : to_ l b ≤ i) (hi : i < l.length) : b + 1 < (at_ l i).1 := by
  have h1 := to_at (l := l) (hi := b) (by omega); have := at_mono1 g h hi; omega
set_option maxRecDepth 100000 in
theorem from_le_to {l : List R} (g : Rises l) {lo hi : Int} (h : lo ≤ hi) : from_ l lo ≤ to_ l hi := by
  rcases Nat.lt_or_ge (to_ l hi) (from_ l lo) with h1 | h1
  · have h2 := from_le l lo
    have h3 := from_lt h1
    have h4 := to_at (l := l) (hi := hi) (by omega)
    have h5 := at_bd g (k := to_ l hi) (by omega)
    omega
  · exact h1

/-- The range that comes of what is added, and of all that it joins. -/
def whole (l : List R) (lo hi : Int) : R := if from_ l lo < to_ l hi then (min lo (at_ l (from_ l lo)).1, max hi (at_ l (to_ l hi - 1)).2) else (lo, hi)
def add (l : List R) (lo hi : Int) : List R := l.take (from_ l lo) ++ whole l lo hi :: l.drop (to_ l hi)
set_option maxRecDepth 100000 in
theorem add_length {l : List R} (lo hi : Int) : (add l lo hi).length = from_ l lo + 1 + (l.length - to_ l hi) := by
  have := from_le l lo; simp [add]; omega

set_option maxRecDepth 100000 in
theorem whole_bd {l : List R} (g : Rises l) {lo hi : Int} (h0 : 0 ≤ lo) (h1 : lo ≤ hi) (h2 : hi ≤ M) :
    0 ≤ (whole l lo hi).1 ∧ (whole l lo hi).1 ≤ (whole l lo hi).2 ∧ (whole l lo hi).2 ≤ M := by
  unfold whole; split
  · rename_i h
    have := to_le l hi
    have a := at_bd g (k := from_ l lo) (by omega)
    have b := at_bd g (k := to_ l hi - 1) (by omega)
    simp only; omega
  · simp only; omega

set_option maxRecDepth 100000 in
theorem mem_take_at {l : List R} {k : Nat} {r : R} (h : r ∈ l.take k) : ∃ i, i < k ∧ i < l.length ∧ r = at_ l i := by
  obtain ⟨i, hi, rfl⟩ := List.getElem_of_mem h
  have h1 : i < k ∧ i < l.length := by simp at hi; omega
  exact ⟨i, h1.1, h1.2, by rw [at_of h1.2]; simp⟩
set_option maxRecDepth 100000 in
theorem mem_drop_at {l : List R} {k : Nat} {r : R} (h : r ∈ l.drop k) : ∃ i, k ≤ i ∧ i < l.length ∧ r = at_ l i := by
  obtain ⟨i, hi, rfl⟩ := List.getElem_of_mem h
  have h1 : k + i < l.length := by simp at hi; omega
  exact ⟨k + i, by omega, h1, by rw [at_of h1]; simp⟩
set_option maxRecDepth 100000 in
theorem mem_at {l : List R} {r : R} (h : r ∈ l) : ∃ i, i < l.length ∧ r = at_ l i := by
  obtain ⟨i, hi, rfl⟩ := List.getElem_of_mem h
  exact ⟨i, hi, (at_of hi).symm⟩

set_option maxRecDepth 100000 in
theorem add_good {l : List R} (g : Rises l) {lo hi : Int} (h0 : 0 ≤ lo) (h1 : lo ≤ hi) (h2 : hi ≤ M) : Rises (add l lo hi) := by
  have hft := from_le_to g h1
  have hfl := from_le l lo
  have htl := to_le l hi
  constructor
  · intro r hr
    simp only [add, List.mem_append, List.mem_cons] at hr
    rcases hr with hr | rfl | hr
    · exact g.1 r (List.mem_of_mem_take hr)
    · exact whole_bd g h0 h1 h2
    · exact g.1 r (List.mem_of_mem_drop hr)
  · have hw1 : ∀ i, i < from_ l lo → (at_ l i).2 + 1 < (whole l lo hi).1 := fun i hi' => by
      have := from_lt hi'
      unfold whole; split
      · rename_i h; have := at_lt g hi' (k := from_ l lo) (by omega); simp only; omega
      · simp only; omega
    have hw2 : ∀ i, to_ l hi ≤ i → i < l.length → (whole l lo hi).2 + 1 < (at_ l i).1 := fun i hi' hil => by
      have := to_ge g hi' hil
      unfold whole; split
      · rename_i h; have := at_lt g (i := to_ l hi - 1) (k := i) (by omega) hil; simp only; omega
      · simp only; omega
    unfold add
    rw [List.pairwise_append, List.pairwise_cons]
    refine ⟨g.2.sublist (List.take_sublist _ _), ⟨fun r hr => ?_, g.2.sublist (List.drop_sublist _ _)⟩, fun r hr s hs => ?_⟩
    · obtain ⟨i, h3, h4, rfl⟩ := mem_drop_at hr; exact hw2 i h3 h4
    · obtain ⟨i, h3, h4, rfl⟩ := mem_take_at hr
      rcases List.mem_cons.1 hs with rfl | hs
      · exact hw1 i h3
      · obtain ⟨k, h5, h6, rfl⟩ := mem_drop_at hs; exact at_lt g (by omega) h6

set_option maxRecDepth 100000 in
theorem mem_add {l : List R} (g : Rises l) {lo hi : Int} (h1 : lo ≤ hi) (n : Int) : mem (add l lo hi) n ↔ mem l n ∨ (lo ≤ n ∧ n ≤ hi) := by
  have hft := from_le_to g h1
  have hfl := from_le l lo
  have htl := to_le l hi
  unfold add
  rw [mem_append, mem_cons]
  constructor
  · rintro (⟨r, hr, h3⟩ | h | ⟨r, hr, h3⟩)
    · exact .inl ⟨r, List.mem_of_mem_take hr, h3⟩
    · unfold whole at h; split at h
      · rename_i hlt
        simp only at h
        have a := from_at (l := l) (lo := lo) (by omega)
        have b := to_lt (l := l) (hi := hi) (i := to_ l hi - 1) (by omega)
        rcases Int.lt_or_le n lo with h4 | h4
        · exact .inl ⟨_, at_mem (k := from_ l lo) (by omega), by omega, by omega⟩
        · rcases Int.lt_or_le hi n with h5 | h5
          · exact .inl ⟨_, at_mem (k := to_ l hi - 1) (by omega), by omega, by omega⟩
          · exact .inr ⟨h4, h5⟩
      · exact .inr h
    · exact .inl ⟨r, List.mem_of_mem_drop hr, h3⟩
  · rintro (⟨r, hr, h3, h4⟩ | ⟨h3, h4⟩)
    · obtain ⟨i, hi', rfl⟩ := mem_at hr
      rcases Nat.lt_or_ge i (from_ l lo) with h5 | h5
      · exact .inl ⟨at_ l i, by rw [at_of hi']; exact List.mem_take_iff_getElem.2 ⟨i, by omega, rfl⟩, h3, h4⟩
      · rcases Nat.lt_or_ge i (to_ l hi) with h6 | h6
        · refine .inr (.inl ?_)
          unfold whole; rw [if_pos (by omega)]
          have a := at_mono1 g h5 hi'
          have b := at_mono2 g (i := i) (k := to_ l hi - 1) (by omega) (by omega)
          simp only; omega
        · exact .inr (.inr ⟨at_ l i, by rw [at_of hi']; exact List.mem_drop_iff_getElem.2 ⟨i - to_ l hi, by omega, by simp [show to_ l hi + (i - to_ l hi) = i by omega]⟩, h3, h4⟩)
    · refine .inr (.inl ?_)
      unfold whole; split
      · simp only; omega
      · exact ⟨h3, h4⟩

/-- What is left behind a cut. -/
def keep_ (l : List R) (b : Int) : Nat := l.findIdx (fun r => decide (b ≤ r.2))
def trim (l : List R) (b : Int) : List R := match l with | [] => [] | r :: t => (max r.1 b, r.2) :: t
def cut (l : List R) (b : Int) : List R := trim (l.drop (keep_ l b)) b
set_option maxRecDepth 100000 in
theorem trim_length (l : List R) (b : Int) : (trim l b).length = l.length := by cases l <;> rfl
set_option maxRecDepth 100000 in
theorem keep_le (l : List R) (b : Int) : keep_ l b ≤ l.length := find_le _ _
set_option maxRecDepth 100000 in
theorem cut_length (l : List R) (b : Int) : (cut l b).length = l.length - keep_ l b := by unfold cut; rw [trim_length]; simp
set_option maxRecDepth 100000 in
theorem keep_lt {l : List R} {b : Int} {i : Nat} (h : i < keep_ l b) : (at_ l i).2 < b := by have := find_lt h; simp at this; omega
set_option maxRecDepth 100000 in
theorem keep_at {l : List R} {b : Int} (h : keep_ l b < l.length) : b ≤ (at_ l (keep_ l b)).2 := of_decide_eq_true (find_at (p := fun r => decide (b ≤ r.2)) h)
set_option maxRecDepth 100000 in
theorem keep_ge {l : List R} (g : Rises l) {b : Int} {i : Nat} (h : keep_ l b ≤ i) (hi : i < l.length) : b ≤ (at_ l i).2 := by
  have h1 := keep_at (l := l) (b := b) (by omega); have := at_mono2 g h hi; omega
set_option maxRecDepth 100000 in
theorem good_drop {l : List R} (g : Rises l) (k : Nat) : Rises (l.drop k) := ⟨fun r h => g.1 r (List.mem_of_mem_drop h), g.2.sublist (List.drop_sublist _ _)⟩
set_option maxRecDepth 100000 in
theorem cut_good {l : List R} (g : Rises l) {b : Int} (h0 : num b) : Rises (cut l b) := by
  have gd := good_drop g (keep_ l b)
  unfold cut
  match he : l.drop (keep_ l b) with
  | [] => exact good_nil
  | r :: t =>
    rw [he] at gd
    have hr := gd.1 r (by simp)
    have hlt : keep_ l b < l.length := by have := congrArg List.length he; simp at this; omega
    have hat : r = at_ l (keep_ l b) := by rw [at_of hlt]; have := congrArg (·[0]?) he; simp [hlt] at this; exact this.symm
    have hk := keep_at hlt
    rw [← hat] at hk
    refine ⟨fun s hs => ?_, List.pairwise_cons.2 ⟨gd.head, gd.tail.2⟩⟩
    rcases List.mem_cons.1 hs with rfl | hs
    · simp only; unfold num at h0; omega
    · exact gd.1 s (List.mem_cons_of_mem _ hs)
set_option maxRecDepth 100000 in
theorem mem_cut {l : List R} (g : Rises l) (b n : Int) : mem (cut l b) n ↔ mem l n ∧ b ≤ n := by
  unfold cut
  have hsplit : mem l n ↔ mem (l.take (keep_ l b)) n ∨ mem (l.drop (keep_ l b)) n := by rw [← mem_append, List.take_append_drop]
  have htake : mem (l.take (keep_ l b)) n → n < b := by
    rintro ⟨r, hr, h1, h2⟩
    obtain ⟨i, h3, h4, rfl⟩ := mem_take_at hr
    have := keep_lt h3; omega
  have gd := good_drop g (keep_ l b)
  match he : l.drop (keep_ l b) with
  | [] => rw [he] at hsplit; simp only [trim]; constructor
          · exact fun h => absurd h mem_nil
          · rintro ⟨h1, h2⟩; rcases hsplit.1 h1 with h | h; have := htake h; omega; exact absurd h mem_nil
  | r :: t =>
    rw [he] at gd hsplit
    have hlt : keep_ l b < l.length := by have := congrArg List.length he; simp at this; omega
    have hat : r = at_ l (keep_ l b) := by rw [at_of hlt]; have := congrArg (·[0]?) he; simp [hlt] at this; exact this.symm
    have hk := keep_at hlt
    rw [← hat] at hk
    simp only [trim]
    rw [mem_cons] at hsplit ⊢
    constructor
    · rintro (h | ⟨s, hs, h1, h2⟩)
      · simp only at h; exact ⟨hsplit.2 (.inr (.inl (by omega))), by omega⟩
      · have := gd.head s hs; exact ⟨hsplit.2 (.inr (.inr ⟨s, hs, h1, h2⟩)), by omega⟩
    · rintro ⟨h1, h2⟩
      rcases hsplit.1 h1 with h | h | h
      · have := htake h; omega
      · left; simp only; omega
      · exact .inr h

/-- Is a number there; in which range; the next one that isn't. -/
def has (l : List R) (n : Int) : Bool := l.any (fun r => decide (r.1 ≤ n ∧ n ≤ r.2))
set_option maxRecDepth 100000 in
theorem has_iff {l : List R} {n : Int} : has l n = true ↔ mem l n := by simp [has, mem]
def rng (l : List R) (n : Int) : R := if has l n then at_ l (keep_ l n) else (0, 0)
set_option maxRecDepth 100000 in
theorem has_at {l : List R} (g : Rises l) (n : Int) : has l n = true ↔ keep_ l n < l.length ∧ (at_ l (keep_ l n)).1 ≤ n := by
  rw [has_iff]
  constructor
  · rintro ⟨r, hr, h1, h2⟩
    obtain ⟨i, hi, rfl⟩ := mem_at hr
    have h3 : keep_ l n ≤ i := by
      rcases Nat.lt_or_ge i (keep_ l n) with h | h
      · have := keep_lt h; omega
      · exact h
    have h4 := keep_at (l := l) (b := n) (by omega)
    have h5 := at_mono1 g h3 hi
    exact ⟨by omega, by omega⟩
  · rintro ⟨h1, h2⟩
    exact ⟨_, at_mem h1, h2, keep_at h1⟩
set_option maxRecDepth 100000 in
theorem rng_of {l : List R} (g : Rises l) {n : Int} (h : has l n = true) : keep_ l n < l.length ∧ rng l n = at_ l (keep_ l n) ∧ (rng l n).1 ≤ n ∧ n ≤ (rng l n).2 ∧ (rng l n).2 ≤ M := by
  have h1 := (has_at g n).1 h
  have h2 : rng l n = at_ l (keep_ l n) := by unfold rng; rw [if_pos h]
  exact ⟨h1.1, h2, by rw [h2]; exact h1.2, by rw [h2]; exact keep_at h1.1, by rw [h2]; exact (at_bd g h1.1).2.2⟩
def next (l : List R) (n : Int) : Int := if num n then (if has l n then (if (rng l n).2 = M then -1 else (rng l n).2 + 1) else n) else -1
def cnt (l : List R) : Int := (l.map (fun r => r.2 - r.1 + 1)).sum
def mx (l : List R) : Int := match l.getLast? with | none => -1 | some r => r.2
def mn (l : List R) : Int := match l with | [] => -1 | r :: _ => r.1
/-- What a set says of what is added, or cut. -/
def addErr (room : Int) (l : List R) (lo hi : Int) : Int := if num lo ∧ num hi ∧ lo ≤ hi then (if room < (add l lo hi).length then 5 else 0) else 2
def addTo (room : Int) (l : List R) (lo hi : Int) : List R := if addErr room l lo hi = 0 then add l lo hi else l
def cutErr (b : Int) : Int := if num b then 0 else 2
def cutTo (l : List R) (b : Int) : List R := if num b then cut l b else l
set_option maxRecDepth 100000 in
theorem addErr_zero {room : Int} {l : List R} {lo hi : Int} (h : addErr room l lo hi = 0) : num lo ∧ num hi ∧ lo ≤ hi ∧ ((add l lo hi).length : Int) ≤ room := by
  unfold addErr at h
  by_cases h1 : num lo ∧ num hi ∧ lo ≤ hi
  · rw [if_pos h1] at h
    by_cases h2 : room < (add l lo hi).length
    · rw [if_pos h2] at h; cases h
    · exact ⟨h1.1, h1.2.1, h1.2.2, by omega⟩
  · rw [if_neg h1] at h; cases h
set_option maxRecDepth 100000 in
theorem addTo_good {room : Int} {l : List R} (g : Rises l) (lo hi : Int) : Rises (addTo room l lo hi) := by
  unfold addTo; split
  · rename_i h; have := addErr_zero h; exact add_good g this.1.1 this.2.2.1 this.2.1.2
  · exact g
set_option maxRecDepth 100000 in
theorem cutTo_good {l : List R} (g : Rises l) (b : Int) : Rises (cutTo l b) := by
  unfold cutTo; split
  · rename_i h; exact cut_good g h
  · exact g
set_option maxRecDepth 100000 in
theorem addTo_room {room : Int} {l : List R} (h : (l.length : Int) ≤ room) (lo hi : Int) : ((addTo room l lo hi).length : Int) ≤ room := by
  unfold addTo; split
  · rename_i h; exact (addErr_zero h).2.2.2
  · exact h
set_option maxRecDepth 100000 in
theorem cutTo_room {room : Int} {l : List R} (h : (l.length : Int) ≤ room) (b : Int) : ((cutTo l b).length : Int) ≤ room := by
  unfold cutTo; split
  · rw [cut_length]; omega
  · exact h
set_option maxRecDepth 100000 in
/-- There is no room, if nothing is joined and all of it is used. -/
theorem add_full {room : Int} {l : List R} (g : Rises l) (hr : (l.length : Int) ≤ room) {lo hi : Int} (h1 : lo ≤ hi) : room < (add l lo hi).length ↔ from_ l lo = to_ l hi ∧ (l.length : Int) = room := by
  have := from_le_to g h1
  have := to_le l hi
  rw [add_length]
  omega

end Go.Proofs.Ytdfjceghhjecaaa.SpnM
