/-
  Plain mathematics of sets of numbers as ranges: what is added, cut, found; a set is known by its numbers. Nothing here speaks of a program.
-/
import Derived.Test.YtilkgjpgoogiiaaGreatWrdabJ17a
import Derived.Shelf.Abstract
import Derived.Deep.LoopGhost
import Derived.Deep.Cut
import Derived.Deep.CutRange
set_option maxRecDepth 100000
set_option maxHeartbeats 16000000
set_option linter.unusedVariables false
set_option linter.unusedSimpArgs false
namespace Go.Proofs.YtilkgjpgoogiiaaGreat.SpnM
abbrev R := Int × Int
def M : Int := 9007199254740991
def num (n : Int) : Prop := 0 ≤ n ∧ n ≤ M
instance (n : Int) : Decidable (num n) := by unfold num; infer_instance
def Rises (l : List R) : Prop := (∀ r ∈ l, 0 ≤ r.1 ∧ r.1 ≤ r.2 ∧ r.2 ≤ M) ∧ l.Pairwise (fun r s => r.2 + 1 < s.1)
def mem (l : List R) (n : Int) : Prop := ∃ r ∈ l, r.1 ≤ n ∧ n ≤ r.2
def at_ (l : List R) (k : Nat) : R := l.getD k (0, 0)
theorem at_of {l : List R} {k : Nat} (h : k < l.length) : at_ l k = l[k] := by simp [at_, h]
theorem at_mem {l : List R} {k : Nat} (h : k < l.length) : at_ l k ∈ l := by rw [at_of h]; exact List.getElem_mem h
theorem at_bd {l : List R} (g : Rises l) {k : Nat} (h : k < l.length) : 0 ≤ (at_ l k).1 ∧ (at_ l k).1 ≤ (at_ l k).2 ∧ (at_ l k).2 ≤ M := g.1 _ (at_mem h)
theorem at_lt {l : List R} (g : Rises l) {i k : Nat} (hik : i < k) (h : k < l.length) : (at_ l i).2 + 1 < (at_ l k).1 := by
  rw [at_of h, at_of (by omega)]; exact List.pairwise_iff_getElem.1 g.2 i k (by omega) h hik
theorem good_nil : Rises [] := ⟨(fun _ h => by cases h), List.Pairwise.nil⟩
theorem Rises.tail {r : R} {t : List R} (g : Rises (r :: t)) : Rises t := ⟨fun s h => g.1 s (List.mem_cons_of_mem _ h), (List.pairwise_cons.1 g.2).2⟩
theorem Rises.head {r : R} {t : List R} (g : Rises (r :: t)) : ∀ s ∈ t, r.2 + 1 < s.1 := (List.pairwise_cons.1 g.2).1
theorem mem_cons {r : R} {t : List R} {n : Int} : mem (r :: t) n ↔ (r.1 ≤ n ∧ n ≤ r.2) ∨ mem t n := by simp [mem]
theorem mem_nil {n : Int} : ¬ mem [] n := by rintro ⟨_, h, _⟩; cases h
theorem mem_append {a b : List R} {n : Int} : mem (a ++ b) n ↔ mem a n ∨ mem b n := by
  simp only [mem, List.mem_append]
  constructor
  · rintro ⟨r, h | h, x⟩; exact .inl ⟨r, h, x⟩; exact .inr ⟨r, h, x⟩
  · rintro (⟨r, h, x⟩ | ⟨r, h, x⟩); exact ⟨r, .inl h, x⟩; exact ⟨r, .inr h, x⟩
theorem mem_reverse {a : List R} {n : Int} : mem a.reverse n ↔ mem a n := by simp [mem]
theorem mem_num {l : List R} (g : Rises l) {n : Int} (h : mem l n) : num n := by
  obtain ⟨r, hr, h1, h2⟩ := h; have := g.1 r hr; exact ⟨by omega, by omega⟩
theorem unique : ∀ {l m : List R}, Rises l → Rises m → (∀ n, mem l n ↔ mem m n) → l = m := by
  intro l
  induction l with
  | nil =>
    intro m _ gm h
    cases m with
    | nil => rfl
    | cons r t => have hr := gm.1 r (by simp); exact absurd ((h r.1).2 ⟨r, by simp, by omega, by omega⟩) mem_nil
  | cons r t ih =>
    intro m gl gm h
    cases m with
    | nil => have hr := gl.1 r (by simp); exact absurd ((h r.1).1 ⟨r, by simp, by omega, by omega⟩) mem_nil
    | cons s u =>
      have hr := gl.1 r (by simp)
      have hs := gm.1 s (by simp)
      have lo1 : s.1 ≤ r.1 := by
        rcases mem_cons.1 ((h r.1).1 ⟨r, by simp, by omega, by omega⟩) with h1 | ⟨x, hx, h1, h2⟩
        · omega
        · have := gm.head x hx; omega
      have lo2 : r.1 ≤ s.1 := by
        rcases mem_cons.1 ((h s.1).2 ⟨s, by simp, by omega, by omega⟩) with h1 | ⟨x, hx, h1, h2⟩
        · omega
        · have := gl.head x hx; omega
      have hi1 : ¬ r.2 < s.2 := fun hlt => by
        rcases mem_cons.1 ((h (r.2 + 1)).2 ⟨s, by simp, by omega, by omega⟩) with h1 | ⟨x, hx, h1, h2⟩
        · omega
        · have := gl.head x hx; omega
      have hi2 : ¬ s.2 < r.2 := fun hlt => by
        rcases mem_cons.1 ((h (s.2 + 1)).1 ⟨r, by simp, by omega, by omega⟩) with h1 | ⟨x, hx, h1, h2⟩
        · omega
        · have := gm.head x hx; omega
      have e : r = s := Prod.ext (by omega) (by omega)
      subst e
      have ht : ∀ n, mem t n ↔ mem u n := fun n => by
        constructor
        · rintro ⟨x, hx, h1, h2⟩
          have hb := gl.head x hx
          rcases mem_cons.1 ((h n).1 (mem_cons.2 (.inr ⟨x, hx, h1, h2⟩))) with h3 | h3
          · omega
          · exact h3
        · rintro ⟨x, hx, h1, h2⟩
          have hb := gm.head x hx
          rcases mem_cons.1 ((h n).2 (mem_cons.2 (.inr ⟨x, hx, h1, h2⟩))) with h3 | h3
          · omega
          · exact h3
      rw [ih gl.tail gm.tail ht]
theorem find_lt {p : R → Bool} {l : List R} {i : Nat} (h : i < l.findIdx p) : p (at_ l i) = false := by
  have hl : i < l.length := Nat.lt_of_lt_of_le h List.findIdx_le_length
  rw [at_of hl]; simpa using List.not_of_lt_findIdx h
theorem find_at {p : R → Bool} {l : List R} (h : l.findIdx p < l.length) : p (at_ l (l.findIdx p)) = true := by
  rw [at_of h]; exact List.findIdx_getElem
theorem find_le (p : R → Bool) (l : List R) : l.findIdx p ≤ l.length := List.findIdx_le_length
def from_ (l : List R) (lo : Int) : Nat := l.findIdx (fun r => decide (lo - 1 ≤ r.2))
def to_ (l : List R) (hi : Int) : Nat := l.findIdx (fun r => decide (hi + 1 < r.1))
theorem from_le (l : List R) (lo : Int) : from_ l lo ≤ l.length := find_le _ _
theorem to_le (l : List R) (hi : Int) : to_ l hi ≤ l.length := find_le _ _
theorem from_lt {l : List R} {lo : Int} {i : Nat} (h : i < from_ l lo) : (at_ l i).2 + 1 < lo := by have := find_lt h; simp at this; omega
theorem from_at {l : List R} {lo : Int} (h : from_ l lo < l.length) : lo - 1 ≤ (at_ l (from_ l lo)).2 := of_decide_eq_true (find_at (p := fun r => decide (lo - 1 ≤ r.2)) h)
theorem to_lt {l : List R} {hi : Int} {i : Nat} (h : i < to_ l hi) : (at_ l i).1 ≤ hi + 1 := by have := find_lt h; simp at this; omega
theorem to_at {l : List R} {hi : Int} (h : to_ l hi < l.length) : hi + 1 < (at_ l (to_ l hi)).1 := of_decide_eq_true (find_at (p := fun r => decide (hi + 1 < r.1)) h)
theorem at_mono1 {l : List R} (g : Rises l) {i k : Nat} (h : i ≤ k) (hk : k < l.length) : (at_ l i).1 ≤ (at_ l k).1 := by
  rcases Nat.lt_or_ge i k with h1 | h1
  · have := at_lt g h1 hk; have := at_bd g (k := i) (by omega); omega
  · rw [show i = k by omega]; exact Int.le_refl _
theorem at_mono2 {l : List R} (g : Rises l) {i k : Nat} (h : i ≤ k) (hk : k < l.length) : (at_ l i).2 ≤ (at_ l k).2 := by
  rcases Nat.lt_or_ge i k with h1 | h1
  · have := at_lt g h1 hk; have := at_bd g hk; omega
  · rw [show i = k by omega]; exact Int.le_refl _
theorem from_ge {l : List R} (g : Rises l) {lo : Int} {i : Nat} (h : from_ l lo ≤ i) (hi : i < l.length) : lo - 1 ≤ (at_ l i).2 := by
  have h1 := from_at (l := l) (lo := lo) (by omega); have := at_mono2 g h hi; omega
theorem to_ge {l : List R} (g : Rises l) {b : Int} {i : Nat} (h : to_ l b ≤ i) (hi : i < l.length) : b + 1 < (at_ l i).1 := by
  have h1 := to_at (l := l) (hi := b) (by omega); have := at_mono1 g h hi; omega
theorem from_le_to {l : List R} (g : Rises l) {lo hi : Int} (h : lo ≤ hi) : from_ l lo ≤ to_ l hi := by
  rcases Nat.lt_or_ge (to_ l hi) (from_ l lo) with h1 | h1
  · have h2 := from_le l lo
    have h3 := from_lt h1
    have h4 := to_at (l := l) (hi := hi) (by omega)
    have h5 := at_bd g (k := to_ l hi) (by omega)
    omega
  · exact h1
def whole (l : List R) (lo hi : Int) : R := if from_ l lo < to_ l hi then (min lo (at_ l (from_ l lo)).1, max hi (at_ l (to_ l hi - 1)).2) else (lo, hi)
def add (l : List R) (lo hi : Int) : List R := l.take (from_ l lo) ++ whole l lo hi :: l.drop (to_ l hi)
theorem add_length {l : List R} (lo hi : Int) : (add l lo hi).length = from_ l lo + 1 + (l.length - to_ l hi) := by
  have := from_le l lo; simp [add]; omega
theorem whole_bd {l : List R} (g : Rises l) {lo hi : Int} (h0 : 0 ≤ lo) (h1 : lo ≤ hi) (h2 : hi ≤ M) :
    0 ≤ (whole l lo hi).1 ∧ (whole l lo hi).1 ≤ (whole l lo hi).2 ∧ (whole l lo hi).2 ≤ M := by
  unfold whole; split
  · rename_i h
    have := to_le l hi
    have a := at_bd g (k := from_ l lo) (by omega)
    have b := at_bd g (k := to_ l hi - 1) (by omega)
    simp only; omega
  · simp only; omega
theorem mem_take_at {l : List R} {k : Nat} {r : R} (h : r ∈ l.take k) : ∃ i, i < k ∧ i < l.length ∧ r = at_ l i := by
  obtain ⟨i, hi, rfl⟩ := List.getElem_of_mem h
  have h1 : i < k ∧ i < l.length := by simp at hi; omega
  exact ⟨i, h1.1, h1.2, by rw [at_of h1.2]; simp⟩
theorem mem_drop_at {l : List R} {k : Nat} {r : R} (h : r ∈ l.drop k) : ∃ i, k ≤ i ∧ i < l.length ∧ r = at_ l i := by
  obtain ⟨i, hi, rfl⟩ := List.getElem_of_mem h
  have h1 : k + i < l.length := by simp at hi; omega
  exact ⟨k + i, by omega, h1, by rw [at_of h1]; simp⟩
theorem mem_at {l : List R} {r : R} (h : r ∈ l) : ∃ i, i < l.length ∧ r = at_ l i := by
  obtain ⟨i, hi, rfl⟩ := List.getElem_of_mem h
  exact ⟨i, hi, (at_of hi).symm⟩
theorem add_good {l : List R} (g : Rises l) {lo hi : Int} (h0 : 0 ≤ lo) (h1 : lo ≤ hi) (h2 : hi ≤ M) : Rises (add l lo hi) := by
  have hft := from_le_to g h1
  have hfl := from_le l lo
  have htl := to_le l hi
  constructor
  · intro r hr
    simp only [add, List.mem_append, List.mem_cons] at hr
    rcases hr with hr | rfl | hr
    · exact g.1 r (List.mem_of_mem_take hr)
    · exact whole_bd g h0 h1 h2
    · exact g.1 r (List.mem_of_mem_drop hr)
  · have hw1 : ∀ i, i < from_ l lo → (at_ l i).2 + 1 < (whole l lo hi).1 := fun i hi' => by
      have := from_lt hi'
      unfold whole; split
      · rename_i h; have := at_lt g hi' (k := from_ l lo) (by omega); simp only; omega
      · simp only; omega
    have hw2 : ∀ i, to_ l hi ≤ i → i < l.length → (whole l lo hi).2 + 1 < (at_ l i).1 := fun i hi' hil => by
      have := to_ge g hi' hil
      unfold whole; split
      · rename_i h; have := at_lt g (i := to_ l hi - 1) (k := i) (by omega) hil; simp only; omega
      · simp only; omega
    unfold add
    rw [List.pairwise_append, List.pairwise_cons]
    refine ⟨g.2.sublist (List.take_sublist _ _), ⟨fun r hr => ?_, g.2.sublist (List.drop_sublist _ _)⟩, fun r hr s hs => ?_⟩
    · obtain ⟨i, h3, h4, rfl⟩ := mem_drop_at hr; exact hw2 i h3 h4
    · obtain ⟨i, h3, h4, rfl⟩ := mem_take_at hr
      rcases List.mem_cons.1 hs with rfl | hs
      · exact hw1 i h3
      · obtain ⟨k, h5, h6, rfl⟩ := mem_drop_at hs; exact at_lt g (by omega) h6
theorem mem_add {l : List R} (g : Rises l) {lo hi : Int} (h1 : lo ≤ hi) (n : Int) : mem (add l lo hi) n ↔ mem l n ∨ (lo ≤ n ∧ n ≤ hi) := by
  have hft := from_le_to g h1
  have hfl := from_le l lo
  have htl := to_le l hi
  unfold add
  rw [mem_append, mem_cons]
  constructor
  · rintro (⟨r, hr, h3⟩ | h | ⟨r, hr, h3⟩)
    · exact .inl ⟨r, List.mem_of_mem_take hr, h3⟩
    · unfold whole at h; split at h
      · rename_i hlt
        simp only at h
        have a := from_at (l := l) (lo := lo) (by omega)
        have b := to_lt (l := l) (hi := hi) (i := to_ l hi - 1) (by omega)
        rcases Int.lt_or_le n lo with h4 | h4
        · exact .inl ⟨_, at_mem (k := from_ l lo) (by omega), by omega, by omega⟩
        · rcases Int.lt_or_le hi n with h5 | h5
          · exact .inl ⟨_, at_mem (k := to_ l hi - 1) (by omega), by omega, by omega⟩
          · exact .inr ⟨h4, h5⟩
      · exact .inr h
    · exact .inl ⟨r, List.mem_of_mem_drop hr, h3⟩
  · rintro (⟨r, hr, h3, h4⟩ | ⟨h3, h4⟩)
    · obtain ⟨i, hi', rfl⟩ := mem_at hr
      rcases Nat.lt_or_ge i (from_ l lo) with h5 | h5
      · exact .inl ⟨at_ l i, by rw [at_of hi']; exact List.mem_take_iff_getElem.2 ⟨i, by omega, rfl⟩, h3, h4⟩
      · rcases Nat.lt_or_ge i (to_ l hi) with h6 | h6
        · refine .inr (.inl ?_)
          unfold whole; rw [if_pos (by omega)]
          have a := at_mono1 g h5 hi'
          have b := at_mono2 g (i := i) (k := to_ l hi - 1) (by omega) (by omega)
          simp only; omega
        · exact .inr (.inr ⟨at_ l i, by rw [at_of hi']; exact List.mem_drop_iff_getElem.2 ⟨i - to_ l hi, by omega, by simp [show to_ l hi + (i - to_ l hi) = i by omega]⟩, h3, h4⟩)
    · refine .inr (.inl ?_)
      unfold whole; split
      · simp only; omega
      · exact ⟨h3, h4⟩
def keep_ (l : List R) (b : Int) : Nat := l.findIdx (fun r => decide (b ≤ r.2))
def trim (l : List R) (b : Int) : List R := match l with | [] => [] | r :: t => (max r.1 b, r.2) :: t
def cut (l : List R) (b : Int) : List R := trim (l.drop (keep_ l b)) b
theorem trim_length (l : List R) (b : Int) : (trim l b).length = l.length := by cases l <;> rfl
theorem keep_le (l : List R) (b : Int) : keep_ l b ≤ l.length := find_le _ _
theorem cut_length (l : List R) (b : Int) : (cut l b).length = l.length - keep_ l b := by unfold cut; rw [trim_length]; simp
theorem keep_lt {l : List R} {b : Int} {i : Nat} (h : i < keep_ l b) : (at_ l i).2 < b := by have := find_lt h; simp at this; omega
theorem keep_at {l : List R} {b : Int} (h : keep_ l b < l.length) : b ≤ (at_ l (keep_ l b)).2 := of_decide_eq_true (find_at (p := fun r => decide (b ≤ r.2)) h)
theorem keep_ge {l : List R} (g : Rises l) {b : Int} {i : Nat} (h : keep_ l b ≤ i) (hi : i < l.length) : b ≤ (at_ l i).2 := by
  have h1 := keep_at (l := l) (b := b) (by omega); have := at_mono2 g h hi; omega
theorem good_drop {l : List R} (g : Rises l) (k : Nat) : Rises (l.drop k) := ⟨fun r h => g.1 r (List.mem_of_mem_drop h), g.2.sublist (List.drop_sublist _ _)⟩
theorem cut_good {l : List R} (g : Rises l) {b : Int} (h0 : num b) : Rises (cut l b) := by
  have gd := good_drop g (keep_ l b)
  unfold cut
  match he : l.drop (keep_ l b) with
  | [] => exact good_nil
  | r :: t =>
    rw [he] at gd
    have hr := gd.1 r (by simp)
    have hlt : keep_ l b < l.length := by have := congrArg List.length he; simp at this; omega
    have hat : r = at_ l (keep_ l b) := by rw [at_of hlt]; have := congrArg (·[0]?) he; simp [hlt] at this; exact this.symm
    have hk := keep_at hlt
    rw [← hat] at hk
    refine ⟨fun s hs => ?_, List.pairwise_cons.2 ⟨gd.head, gd.tail.2⟩⟩
    rcases List.mem_cons.1 hs with rfl | hs
    · simp only; unfold num at h0; omega
    · exact gd.1 s (List.mem_cons_of_mem _ hs)
def has (l : List R) (n : Int) : Bool := l.any (fun r => decide (r.1 ≤ n ∧ n ≤ r.2))
theorem has_iff {l : List R} {n : Int} : has l n = true ↔ mem l n := by simp [has, mem]
def rng (l : List R) (n : Int) : R := if has l n then at_ l (keep_ l n) else (0, 0)
theorem has_at {l : List R} (g : Rises l) (n : Int) : has l n = true ↔ keep_ l n < l.length ∧ (at_ l (keep_ l n)).1 ≤ n := by
  rw [has_iff]
  constructor
  · rintro ⟨r, hr, h1, h2⟩
    obtain ⟨i, hi, rfl⟩ := mem_at hr
    have h3 : keep_ l n ≤ i := by
      rcases Nat.lt_or_ge i (keep_ l n) with h | h
      · have := keep_lt h; omega
      · exact h
    have h4 := keep_at (l := l) (b := n) (by omega)
    have h5 := at_mono1 g h3 hi
    exact ⟨by omega, by omega⟩
  · rintro ⟨h1, h2⟩
    exact ⟨_, at_mem h1, h2, keep_at h1⟩
theorem rng_of {l : List R} (g : Rises l) {n : Int} (h : has l n = true) : keep_ l n < l.length ∧ rng l n = at_ l (keep_ l n) ∧ (rng l n).1 ≤ n ∧ n ≤ (rng l n).2 ∧ (rng l n).2 ≤ M := by
  have h1 := (has_at g n).1 h
  have h2 : rng l n = at_ l (keep_ l n) := by unfold rng; rw [if_pos h]
  exact ⟨h1.1, h2, by rw [h2]; exact h1.2, by rw [h2]; exact keep_at h1.1, by rw [h2]; exact (at_bd g h1.1).2.2⟩
def next (l : List R) (n : Int) : Int := if num n then (if has l n then (if (rng l n).2 = M then -1 else (rng l n).2 + 1) else n) else -1
def cnt (l : List R) : Int := (l.map (fun r => r.2 - r.1 + 1)).sum
def mx (l : List R) : Int := match l.getLast? with | none => -1 | some r => r.2
def addErr (room : Int) (l : List R) (lo hi : Int) : Int := if num lo ∧ num hi ∧ lo ≤ hi then (if room < (add l lo hi).length then 5 else 0) else 2
def addTo (room : Int) (l : List R) (lo hi : Int) : List R := if addErr room l lo hi = 0 then add l lo hi else l
def cutErr (b : Int) : Int := if num b then 0 else 2
def cutTo (l : List R) (b : Int) : List R := if num b then cut l b else l
theorem addErr_zero {room : Int} {l : List R} {lo hi : Int} (h : addErr room l lo hi = 0) : num lo ∧ num hi ∧ lo ≤ hi ∧ ((add l lo hi).length : Int) ≤ room := by
  unfold addErr at h
  by_cases h1 : num lo ∧ num hi ∧ lo ≤ hi
  · rw [if_pos h1] at h
    by_cases h2 : room < (add l lo hi).length
    · rw [if_pos h2] at h; cases h
    · exact ⟨h1.1, h1.2.1, h1.2.2, by omega⟩
  · rw [if_neg h1] at h; cases h
theorem addTo_good {room : Int} {l : List R} (g : Rises l) (lo hi : Int) : Rises (addTo room l lo hi) := by
  unfold addTo; split
  · rename_i h; have := addErr_zero h; exact add_good g this.1.1 this.2.2.1 this.2.1.2
  · exact g
theorem cutTo_good {l : List R} (g : Rises l) (b : Int) : Rises (cutTo l b) := by
  unfold cutTo; split
  · rename_i h; exact cut_good g h
  · exact g
theorem addTo_room {room : Int} {l : List R} (h : (l.length : Int) ≤ room) (lo hi : Int) : ((addTo room l lo hi).length : Int) ≤ room := by
  unfold addTo; split
  · rename_i h; exact (addErr_zero h).2.2.2
  · exact h
theorem cutTo_room {room : Int} {l : List R} (h : (l.length : Int) ≤ room) (b : Int) : ((cutTo l b).length : Int) ≤ room := by
  unfold cutTo; split
  · rw [cut_length]; omega
  · exact h
theorem add_full {room : Int} {l : List R} (g : Rises l) (hr : (l.length : Int) ≤ room) {lo hi : Int} (h1 : lo ≤ hi) : room < (add l lo hi).length ↔ from_ l lo = to_ l hi ∧ (l.length : Int) = room := by
  have := from_le_to g h1
  have := to_le l hi
  rw [add_length]
  omega
end Go.Proofs.YtilkgjpgoogiiaaGreat.SpnM
namespace Go.Proofs.YtilkgjpgoogiiaaGreat.Spn
open Go.RowKit SpnM Wd
def flat : List R → List Value
  | [] => []
  | r :: t => .int .i64 r.1 :: .int .i64 r.2 :: flat t
theorem flat_length (l : List R) : (flat l).length = l.length * 2 := by induction l with
  | nil => rfl
  | cons r t ih => simp [flat, ih]; omega
theorem flat_append (a b : List R) : flat (a ++ b) = flat a ++ flat b := by induction a with
  | nil => rfl
  | cons r t ih => simp [flat, ih]
theorem flat_take (l : List R) : ∀ k, flat (l.take k) = (flat l).take (k * 2) := by
  induction l with
  | nil => intro k; simp [flat]
  | cons r t ih =>
    intro k
    cases k with
    | zero => simp [flat]
    | succ k => rw [List.take_succ_cons, flat, ih, flat, show (k + 1) * 2 = k * 2 + 1 + 1 by omega, List.take_succ_cons, List.take_succ_cons]
theorem flat_drop (l : List R) : ∀ k, flat (l.drop k) = (flat l).drop (k * 2) := by
  induction l with
  | nil => intro k; simp [flat]
  | cons r t ih =>
    intro k
    cases k with
    | zero => simp [flat]
    | succ k => rw [List.drop_succ_cons, ih, flat, show (k + 1) * 2 = k * 2 + 1 + 1 by omega, List.drop_succ_cons, List.drop_succ_cons]
theorem flat_lo (l : List R) : ∀ k, k < l.length → (flat l)[k * 2]? = some (.int .i64 (at_ l k).1) := by
  induction l with
  | nil => intro k h; cases h
  | cons r t ih =>
    intro k h
    cases k with
    | zero => simp [flat, at_]
    | succ k => rw [flat, show (k + 1) * 2 = k * 2 + 1 + 1 by omega, List.getElem?_cons_succ, List.getElem?_cons_succ, ih k (by simpa using h)]; simp [at_]
theorem flat_hi (l : List R) : ∀ k, k < l.length → (flat l)[k * 2 + 1]? = some (.int .i64 (at_ l k).2) := by
  induction l with
  | nil => intro k h; cases h
  | cons r t ih =>
    intro k h
    cases k with
    | zero => simp [flat, at_]
    | succ k => rw [flat, show (k + 1) * 2 + 1 = k * 2 + 1 + 1 + 1 by omega, List.getElem?_cons_succ, List.getElem?_cons_succ, ih k (by simpa using h)]; simp [at_]
theorem flat_one (l : List R) : ∀ u ∈ flat l, u.oneCell' = true := by
  induction l with
  | nil => intro u h; cases h
  | cons r t ih =>
    intro u h
    rcases List.mem_cons.1 h with rfl | h
    · rfl
    · rcases List.mem_cons.1 h with rfl | h
      · rfl
      · exact ih u h
def own (A : Option Addr) : Option Nat := A.map (·.block)
theorem own_block (A : Option Addr) (n c : Nat) : (Value.slice A n c).ownBlock = own A := by cases A <;> rfl
def Row (w : World) (A : Option Addr) (n c : Nat) (l : List R) : Prop := l.length = n ∧ w.ownsRow 0 101 2 (.slice A n c) n (flat l)
section
variable {w w' : World} {A : Option Addr} {n c : Nat} {l : List R}
theorem Row.nil (w : World) : Row w none 0 0 [] := ⟨rfl, World.ownsRow_nil w 0 _ 2⟩
theorem Row.len (h : Row w A n c l) : l.length = n := h.1
theorem Row.form (h : Row w A n c l) : (A = none ∧ n = 0 ∧ c = 0 ∧ l = []) ∨ ∃ g cur, A = some ⟨g, 0, none⟩ ∧ Blk w g 101 cur ∧ n ≤ c ∧ c ≤ maxLen ∧ cur.size = c * 2 ∧ cur.toList.take (n * 2) = flat l := by
  rcases h.2.2 with ⟨e, h0⟩ | ⟨g, cap, cur, e, _, hg, r⟩
  · injection e with e1 e2 e3
    exact .inl ⟨e1, h0, e3, List.eq_nil_of_length_eq_zero (by rw [h.1]; exact h0)⟩
  · injection e with e1 e2 e3
    subst e3
    exact .inr ⟨g, cur, e1, hg, r⟩
theorem Row.cap (h : Row w A n c l) : n ≤ c ∧ c ≤ maxLen := by
  rcases h.form with ⟨_, h0, h1, _⟩ | ⟨g, cur, _, _, h1, h2, _⟩
  · subst h0; subst h1; simp [maxLen]
  · exact ⟨h1, h2⟩
theorem Row.mk' {g : Nat} {cur : Array Value} (hl : l.length = n) (hb : Blk w g 101 cur) (h1 : n ≤ c) (h2 : c ≤ maxLen) (h3 : cur.size = c * 2) (h4 : cur.toList.take (n * 2) = flat l) : Row w (some ⟨g, 0, none⟩) n c l :=
  ⟨hl, by rw [flat_length, hl], .inr ⟨g, c, cur, rfl, Nat.zero_le _, hb, h1, h2, h3, h4⟩⟩
theorem Row.same_ (h : Row w A n c l) (e : ∀ k, own A = some k → w'.heap[k]? = w.heap[k]?) : Row w' A n c l := by
  refine ⟨h.1, h.2.1, ?_⟩
  rcases h.2.2 with h0 | ⟨g, cap, cur, hv, hb, hg, r⟩
  · exact .inl h0
  · injection hv with e1 e2 e3
    exact .inr ⟨g, cap, cur, by rw [e1, e3], hb, (e g (by rw [e1]; rfl)).trans hg, r⟩
theorem Row.lt (h : Row w A n c l) : ∀ k, own A = some k → k < w.heap.size := fun k e => (h.2.lt k (by rw [own_block]; exact e)).2
theorem Row.kept (h : Row w A n c l) (k : Kept w w') : Row w' A n c l := h.same_ fun i e => k.at_ (h.lt i e)
theorem Row.but {F : Nat → Prop} (h : Row w A n c l) (k : But F w w') (hF : ∀ i, own A = some i → ¬ F i) : Row w' A n c l := h.same_ fun i e => k.block i (h.lt i e) (hF i e)
theorem Row.some_ (h : Row w A n c l) (hn : 0 < n) : ∃ g, A = some ⟨g, 0, none⟩ ∧ g < w.heap.size := by
  rcases h.form with ⟨_, h0, _⟩ | ⟨g, cur, e, hb, _⟩
  · omega
  · exact ⟨g, e, hb.lt⟩
theorem Row.lo {g : Nat} (h : Row w (some ⟨g, 0, none⟩) n c l) {k : Nat} (hk : k < n) : w.cell? ⟨g, k * 2, none⟩ = some (.int .i64 (at_ l k).1) := by
  rw [h.2.cellAt (k * 2) (by omega)]; exact flat_lo l k (by rw [h.1]; exact hk)
theorem Row.hi {g : Nat} (h : Row w (some ⟨g, 0, none⟩) n c l) {k : Nat} (hk : k < n) : w.cell? ⟨g, k * 2 + 1, none⟩ = some (.int .i64 (at_ l k).2) := by
  rw [h.2.cellAt (k * 2 + 1) (by omega)]; exact flat_hi l k (by rw [h.1]; exact hk)
theorem Row.free {g : Nat} (h : Row w (some ⟨g, 0, none⟩) n c l) (k : Nat) : w.frozen? ⟨g, k, none⟩ = false := h.2.frozenAt k
theorem Row.of_own {base : Nat} {v : Value} {m : Nat} {l : List R} (h : w.ownsRow base 101 2 v m (flat l)) (hm : l.length = m) : ∃ A c, v = .slice A m c ∧ Row w A m c l ∧ ∀ k, own A = some k → base ≤ k := by
  have hb : w.ownsRow 0 101 2 v m (flat l) := by
    refine ⟨h.1, ?_⟩
    rcases h.2 with h0 | ⟨g, cap, cur, e, _, r⟩
    · exact .inl h0
    · exact .inr ⟨g, cap, cur, e, Nat.zero_le _, r⟩
  rcases h.2 with ⟨rfl, h0⟩ | ⟨g, cap, cur, rfl, hg, r⟩
  · subst h0; exact ⟨none, 0, rfl, ⟨hm, hb⟩, fun k e => by cases e⟩
  · exact ⟨_, cap, rfl, ⟨hm, hb⟩, fun k e => by cases e; exact hg⟩
end
def Foot (p : Nat) (A : Option Addr) (k : Nat) : Prop := k = p ∨ own A = some k
structure SetAt (w : World) (p : Nat) (A : Option Addr) (c room : Nat) (l : List R) : Prop where
  blk : Blk w p 155 #[.int .i64 room, .slice A l.length c]
  row : Row w A l.length c l
  good : Rises l
  room1 : 1 ≤ room ∧ room ≤ 256
  fits : l.length ≤ room
section
variable {w w' : World} {A : Option Addr} {p c room : Nat} {l : List R}
theorem SetAt.kept (h : SetAt w p A c room l) (k : Kept w w') : SetAt w' p A c room l := ⟨h.blk.kept k, h.row.kept k, h.good, h.room1, h.fits⟩
theorem SetAt.but {F : Nat → Prop} (h : SetAt w p A c room l) (k : But F w w') (hF : ∀ i, Foot p A i → ¬ F i) : SetAt w' p A c room l :=
  ⟨h.blk.but k (hF p (.inl rfl)), h.row.but k (fun i e => hF i (.inr e)), h.good, h.room1, h.fits⟩
theorem SetAt.foot (h : SetAt w p A c room l) : ∀ i, Foot p A i → i < w.heap.size := by
  rintro i (rfl | e)
  · exact h.blk.lt
  · exact h.row.lt i e
theorem SetAt.lt (h : SetAt w p A c room l) : p < w.heap.size := h.blk.lt
theorem SetAt.room_ (h : SetAt w p A c room l) : w.cell? ⟨p, 0, none⟩ = some (.int .i64 room) := by rw [h.blk.cell]; rfl
theorem SetAt.list_ (h : SetAt w p A c room l) : w.cell? ⟨p, 1, none⟩ = some (.slice A l.length c) := by rw [h.blk.cell]; rfl
end
def Apart (p : Nat) (A : Option Addr) (q : Nat) (B : Option Addr) : Prop := ∀ i, Foot p A i → Foot q B i → False
theorem Apart.symm {p q : Nat} {A B : Option Addr} (h : Apart p A q B) : Apart q B p A := fun i a b => h i b a
structure RefAt (w : World) (p : Nat) (A : Option Addr) (c room : Nat) (l : List R) : Prop where
  blk : Blk w p 128 #[.int .i64 room, .slice A l.length c]
  row : Row w A l.length c l.reverse
  good : Rises l
  room1 : 1 ≤ room ∧ room ≤ 256
  fits : l.length ≤ room
section
variable {w w' : World} {A : Option Addr} {p c room : Nat} {l : List R}
theorem RefAt.kept (h : RefAt w p A c room l) (k : Kept w w') : RefAt w' p A c room l := ⟨h.blk.kept k, h.row.kept k, h.good, h.room1, h.fits⟩
theorem RefAt.but {F : Nat → Prop} (h : RefAt w p A c room l) (k : But F w w') (hF : ∀ i, Foot p A i → ¬ F i) : RefAt w' p A c room l :=
  ⟨h.blk.but k (hF p (.inl rfl)), h.row.but k (fun i e => hF i (.inr e)), h.good, h.room1, h.fits⟩
theorem RefAt.foot (h : RefAt w p A c room l) : ∀ i, Foot p A i → i < w.heap.size := by
  rintro i (rfl | e)
  · exact h.blk.lt
  · exact h.row.lt i e
theorem RefAt.room_ (h : RefAt w p A c room l) : w.cell? ⟨p, 0, none⟩ = some (.int .i64 room) := by rw [h.blk.cell]; rfl
theorem RefAt.list_ (h : RefAt w p A c room l) : w.cell? ⟨p, 1, none⟩ = some (.slice A l.length c) := by rw [h.blk.cell]; rfl
end
theorem info_range : (Tryz.prog.info? 101).map (fun i => (i.zero, i.size, i.bytes)) = some (some (.agg #[.int .i64 0, .int .i64 0]), 2, 16) := by kernel_rfl
theorem size_range (w : World) : (sizeOf 101).run Tryz.prog w = .ok 2 w := by
  obtain ⟨i0, hi, hz0, hz1, hz2⟩ := info_parts info_range
  simp [sizeOf, typeInfo, hi, hz1]
def GBool (b : Bool) (w : World) (e : Ending) (w' : World) : Prop := e = .returned (.bool b) ∧ Kept w w'
def GInt (n : Int) (w : World) (e : Ending) (w' : World) : Prop := e = .returned (.int .i64 n) ∧ Kept w w'
def Gives (l : List R) (w : World) (e : Ending) (w' : World) : Prop := ∃ A c, e = .returned (.slice A l.length c) ∧ Row w' A l.length c l ∧ Kept w w' ∧ ∀ k, own A = some k → w.heap.size ≤ k
theorem absent_set (p c room : Nat) (A : Option Addr) (l : List R) (w : World) (h : SetAt w p A c room l) : Calls Tryz.prog 123 #[.pointer (some ⟨p, 0, none⟩)] w fun e w' => e = .returned (.bool false) ∧ w = w' := by
  have h0 := h.room_
  have h1 := h.room1
  have hz : ((room : Int) == 0) = false := by simp only [beq_eq_false_iff_ne]; omega
  clear h
  go_enter Tryz.func123, Tryz.ntmps123
  go_wp2
  go_ret
  exact ⟨rfl, rfl⟩
theorem absent_nil (w : World) : Calls Tryz.prog 123 #[.pointer none] w fun e w' => e = .returned (.bool true) ∧ w = w' := by
  go_enter Tryz.func123, Tryz.ntmps123
  go_wp2
  go_ret
  exact ⟨rfl, rfl⟩
theorem absent_zero (p : Nat) (w : World) (h : w.cell? ⟨p, 0, none⟩ = some (.int .i64 0)) : Calls Tryz.prog 123 #[.pointer (some ⟨p, 0, none⟩)] w fun e w' => e = .returned (.bool true) ∧ w = w' := by
  go_enter Tryz.func123, Tryz.ntmps123
  go_wp2
  go_ret
  exact ⟨rfl, rfl⟩
def numB (n : Int) : Bool := decide (num n)
theorem numB_true {n : Int} (h : num n) : numB n = true := decide_eq_true h
theorem numB_false {n : Int} (h : ¬ num n) : numB n = false := decide_eq_false h
theorem isNumber_any (n : Int) (w : World) : Calls Tryz.prog 124 #[.int .i64 n] w fun e w' => e = .returned (.bool (numB n)) ∧ w = w' := by
  by_cases h0 : 0 ≤ n
  · by_cases h1 : n ≤ 9007199254740991
    · have hb := Lib.hid (numB_true (n := n) ⟨h0, h1⟩)
      go_enter Tryz.func124, Tryz.ntmps124
      go_wp2
      go_ret
      exact ⟨ret_bool hb.out.symm, rfl⟩
    · have hb := Lib.hid (numB_false (n := n) (fun h => h1 h.2))
      go_enter Tryz.func124, Tryz.ntmps124
      go_wp2
      go_ret
      exact ⟨ret_bool hb.out.symm, rfl⟩
  · have hb := Lib.hid (numB_false (n := n) (fun h => h0 h.1))
    go_enter Tryz.func124, Tryz.ntmps124
    go_wp2
    go_ret
    exact ⟨ret_bool hb.out.symm, rfl⟩
theorem len_set (p c room : Nat) (A : Option Addr) (l : List R) (w : World) (h : SetAt w p A c room l) : Calls Tryz.prog 170 #[.pointer (some ⟨p, 0, none⟩)] w fun e w' => e = .returned (.int .i64 (l.length : Nat)) ∧ w = w' := by
  have h0 := h.list_
  have ha := absent_set p c room A l w h
  clear h
  generalize l.length = n at *
  go_enter Tryz.func170, Tryz.ntmps170
  go_wp2_with (go_at_call 123; refine ha.mono ?_; rintro e w' ⟨rfl, rfl⟩)
  go_ret
  exact ⟨rfl, rfl⟩
end Go.Proofs.YtilkgjpgoogiiaaGreat.Spn
namespace Go.Proofs.YtilkgjpgoogiiaaGreat.Spn
open Go.RowKit SpnM Wd
theorem search_any (g : Nat) (cb : Array Value) (n k : Nat) (p : Nat → Bool) (w : World) (eg : ∀ args w, (callFunc g args).run Tryz.prog w = .ok (.enter g args) w) (hsz : n < 4611686018427387904)
    (hf : ∀ W, Kept w W → ∀ i : Nat, i < n → Calls Tryz.prog g (#[.int .i64 i] ++ cb) W (GBool (p i) W)) (hk : k ≤ n) (h1 : ∀ i, i < k → p i = false) (h2 : ∀ i, k ≤ i → i < n → p i = true) :
    Calls Tryz.prog 171 #[.int .i64 n, .func (.func g) #[] cb] w (GInt (k : Nat) w) := by
  have HF := Lib.hid hf
  have H1 := Lib.hid h1
  have H2 := Lib.hid h2
  clear hf h1 h2
  go_enter Tryz.func171, Tryz.ntmps171
  go_wp2
  go_loopg [5, 6] n (fun kx s5 s6 wr => ∃ lo hi : Nat, s5 = .int .i64 lo ∧ s6 = .int .i64 hi ∧ lo ≤ k ∧ k ≤ hi ∧ hi ≤ n ∧ hi - lo ≤ kx ∧ Kept w wr)
  case atStart => exact ⟨0, n, rfl, rfl, Nat.zero_le _, hk, Nat.le_refl _, by omega, Kept.refl w⟩
  case round =>
    obtain ⟨lo, hi, rfl, rfl, hlk, hkh, hin, hg, hkw⟩ := hrel
    by_cases hlt : lo < hi
    · have hc := HF.out _ hkw ((lo + hi) / 2) (by omega)
      rw [show (((lo + hi) / 2 : Nat) : Int) = ((lo : Int) + (hi : Int)) / 2 by omega] at hc
      by_cases hp : (lo + hi) / 2 < k
      · rw [H1.out _ hp] at hc
        go_wp2_with (go_at_fn g; refine hc.mono ?_; rintro e w' ⟨rfl, hkw'⟩)
        go_roundg (hi - ((lo + hi) / 2 + 1))
        case measure => omega
        case rel => exact ⟨(lo + hi) / 2 + 1, hi, by rw [show ((lo : Int) + (hi : Int)) / 2 + 1 = (((lo + hi) / 2 + 1 : Nat) : Int) by omega], rfl, by omega, hkh, hin, Nat.le_refl _, hkw.trans hkw'⟩
      · rw [H2.out _ (by omega) (by omega)] at hc
        go_wp2_with (go_at_fn g; refine hc.mono ?_; rintro e w' ⟨rfl, hkw'⟩)
        go_roundg ((lo + hi) / 2 - lo)
        case measure => omega
        case rel => exact ⟨lo, (lo + hi) / 2, rfl, by rw [show ((lo : Int) + (hi : Int)) / 2 = (((lo + hi) / 2 : Nat) : Int) by omega], hlk, by omega, by omega, Nat.le_refl _, hkw.trans hkw'⟩
    · obtain rfl : hi = lo := by omega
      obtain rfl : k = hi := by omega
      go_wp2
      go_ret
      exact ⟨rfl, hkw⟩
def Tells (g x : Nat) (P : R → Bool) (w : World) : Prop := ∀ W, Kept w W → ∀ r : R, Calls Tryz.prog g #[.agg #[.int .i64 r.1, .int .i64 r.2], .pointer (some ⟨x, 0, none⟩)] W (GBool (P r) W)
theorem tells_add1 (x : Nat) (lo : Int) (w : World) (h : num lo) (hx : w.cell? ⟨x, 0, none⟩ = some (.int .i64 lo)) : Tells 131 x (fun r => decide (lo - 1 ≤ r.2)) w := by
  rintro W hk ⟨a, b⟩
  have hc := hk.cell hx
  have hxl : x < W.heap.size := World.block_lt_of_cell? _ _ hc
  obtain ⟨h0, h1⟩ := h
  unfold M at h1
  clear hx hk
  go_enter Tryz.func131, Tryz.ntmps131
  go_wp2
  go_ret
  exact ⟨rfl, (Kept.refl _).alloc _⟩
theorem tells_add2 (x : Nat) (hi : Int) (w : World) (h : num hi) (hx : w.cell? ⟨x, 0, none⟩ = some (.int .i64 hi)) : Tells 132 x (fun r => decide (hi + 1 < r.1)) w := by
  rintro W hk ⟨a, b⟩
  have hc := hk.cell hx
  have hxl : x < W.heap.size := World.block_lt_of_cell? _ _ hc
  obtain ⟨h0, h1⟩ := h
  unfold M at h1
  clear hx hk
  go_enter Tryz.func132, Tryz.ntmps132
  go_wp2
  go_ret
  exact ⟨rfl, (Kept.refl _).alloc _⟩
theorem tells_cut (x : Nat) (b : Int) (w : World) (hx : w.cell? ⟨x, 0, none⟩ = some (.int .i64 b)) : Tells 129 x (fun r => decide (b ≤ r.2)) w := by
  rintro W hk ⟨a, d⟩
  have hc := hk.cell hx
  have hxl : x < W.heap.size := World.block_lt_of_cell? _ _ hc
  clear hx hk
  go_enter Tryz.func129, Tryz.ntmps129
  go_wp2
  go_ret
  exact ⟨rfl, (Kept.refl _).alloc _⟩
theorem tells_around (x : Nat) (b : Int) (w : World) (hx : w.cell? ⟨x, 0, none⟩ = some (.int .i64 b)) : Tells 169 x (fun r => decide (b ≤ r.2)) w := by
  rintro W hk ⟨a, d⟩
  have hc := hk.cell hx
  have hxl : x < W.heap.size := World.block_lt_of_cell? _ _ hc
  clear hx hk
  go_enter Tryz.func169, Tryz.ntmps169
  go_wp2
  go_ret
  exact ⟨rfl, (Kept.refl _).alloc _⟩
end Go.Proofs.YtilkgjpgoogiiaaGreat.Spn
/-
  Contracts of first and of the small functions that look at a set: around, Has, Next, Min, Max.
-/
namespace Go.Proofs.YtilkgjpgoogiiaaGreat.Spn
open Go.RowKit SpnM Wd
theorem first1_any (g x bf bs p c room i : Nat) (P : R → Bool) (A : Option Addr) (l : List R) (w : World) (eg : ∀ args w, (callFunc g args).run Tryz.prog w = .ok (.enter g args) w)
    (hf : w.cell? ⟨bf, 0, none⟩ = some (.func (.func g) #[] #[.pointer (some ⟨x, 0, none⟩)])) (hs : w.cell? ⟨bs, 0, none⟩ = some (.pointer (some ⟨p, 0, none⟩)))
    (h : SetAt w p A c room l) (hi : i < l.length) (ht : Tells g x P w) :
    Calls Tryz.prog 172 #[.int .i64 i, .pointer (some ⟨bf, 0, none⟩), .pointer (some ⟨bs, 0, none⟩)] w (GBool (P (at_ l i)) w) := by
  obtain ⟨gb, rfl, hgb⟩ := h.row.some_ (by omega)
  have h0 := h.list_
  have h1 := h.row.lo hi
  have h2 := h.row.hi hi
  have hlen := Lib.hid h.row.len
  have hcap := h.row.cap
  unfold maxLen at hcap
  have ht' := Lib.hid (ht w.drew ((Kept.refl w).drew) (at_ l i))
  obtain ⟨hi1, hi2⟩ : (0 : Int) ≤ (i : Int) ∧ (i : Int) < ((l.length : Nat) : Int) := ⟨by omega, by omega⟩
  clear h ht
  generalize at_ l i = r at *
  obtain ⟨a, b⟩ := r
  generalize l.length = n at *
  go_enter Tryz.func172, Tryz.ntmps172
  go_wp2
  go_region_held3 (fun w' => w'.cell? ⟨bf, 0, none⟩ = some (.func (.func g) #[] #[.pointer (some ⟨x, 0, none⟩)]) ∧ w'.cell? ⟨bs, 0, none⟩ = some (.pointer (some ⟨p, 0, none⟩)) ∧ w'.cell? ⟨p, 1, none⟩ = some (.slice (some ⟨gb, 0, none⟩) n c) ∧ w'.cell? ⟨gb, i * 2, none⟩ = some (.int .i64 a) ∧ w'.cell? ⟨gb, i * 2 + 1, none⟩ = some (.int .i64 b))
    (first | exact ⟨hf, hs, h0, h1, h2⟩ | exact ⟨hk.cell hf, hk.cell hs, hk.cell h0, hk.cell h1, hk.cell h2⟩)
    ((go_at_fn g; refine ht'.out.mono ?_; rintro e w' ⟨rfl, hk⟩))
  go_wp2
  go_ret
  exact ⟨rfl, ((Kept.refl w).drew).trans hk⟩
theorem first_any (g x p c room : Nat) (P : R → Bool) (A : Option Addr) (l : List R) (w : World) (eg : ∀ args w, (callFunc g args).run Tryz.prog w = .ok (.enter g args) w)
    (h : SetAt w p A c room l) (ht : Tells g x P w) (hm : ∀ i, l.findIdx P ≤ i → i < l.length → P (at_ l i) = true) :
    Calls Tryz.prog 128 #[.pointer (some ⟨p, 0, none⟩), .func (.func g) #[] #[.pointer (some ⟨x, 0, none⟩)]] w (GInt (l.findIdx P : Nat) w) := by
  have hplt := h.lt
  obtain ⟨W, hW⟩ : ∃ W, (w.alloc (.cells #[.pointer (some ⟨p, 0, none⟩)] 76)).alloc (.cells #[.func (.func g) #[] #[.pointer (some ⟨x, 0, none⟩)]] 102) = W := ⟨_, rfl⟩
  have hk : Kept w W := by rw [← hW]; exact ((Kept.refl w).alloc _).alloc _
  have c1 : W.cell? ⟨w.heap.size, 0, none⟩ = some (.pointer (some ⟨p, 0, none⟩)) := by rw [← hW]; exact ((Kept.refl _).alloc _).cell (cell_box w _ _)
  have c2 : W.cell? ⟨w.heap.size + 1, 0, none⟩ = some (.func (.func g) #[] #[.pointer (some ⟨x, 0, none⟩)]) := by rw [← hW]; exact cell_box2 w _ _ _
  have hl := len_set p c room A l W (h.kept hk)
  have hlen : l.length < 4611686018427387904 := by have := h.fits; have := h.room1; omega
  have hs := search_any 172 #[.pointer (some ⟨w.heap.size + 1, 0, none⟩), .pointer (some ⟨w.heap.size, 0, none⟩)] l.length (l.findIdx P) (fun i => P (at_ l i)) W
    (enters_of Tryz.func172 (by kernel_rfl) rfl) hlen
    (fun W' hk' i hi => first1_any g x _ _ p c room i P A l W' eg (hk'.cell c2) (hk'.cell c1) ((h.kept hk).kept hk') hi (fun W2 hk2 r => ht W2 ((hk.trans hk').trans hk2) r)) (find_le _ _) (fun i hi => find_lt hi) hm
  have HW := Lib.hid hW
  have HK := Lib.hid hk
  clear hW hk h ht hm c2
  generalize l.findIdx P = k at *
  generalize l.length = n at *
  go_enter Tryz.func128, Tryz.ntmps128
  go_wp2_with fail
  rw [HW.out]
  go_wp2_with fail
  refine hl.mono ?_
  rintro e w' ⟨rfl, rfl⟩
  go_wp2_with fail
  refine hs.mono ?_
  rintro e w' ⟨rfl, hk'⟩
  go_wp2_with fail
  go_ret
  exact ⟨rfl, HK.out.trans hk'⟩
def Around (l : List R) (n : Int) (w : World) (e : Ending) (w' : World) : Prop := e = .returned (.tuple #[.agg #[.int .i64 (rng l n).1, .int .i64 (rng l n).2], .bool (has l n)]) ∧ Kept w w'
theorem around_yes {l : List R} {n a b : Int} {w w' : World} (h : has l n = true) (hr : rng l n = (a, b)) (hk : Kept w w') : Around l n w (.returned (.tuple #[.agg #[.int .i64 a, .int .i64 b], .bool true])) w' := ⟨by rw [h, hr], hk⟩
theorem around_no {l : List R} {n : Int} {w w' : World} (h : has l n = false) (hk : Kept w w') : Around l n w (.returned (.tuple #[.agg #[.int .i64 0, .int .i64 0], .bool false])) w' := ⟨by unfold rng; rw [h]; rfl, hk⟩
theorem around_any (p c room : Nat) (A : Option Addr) (l : List R) (n : Int) (w : World) (h : SetAt w p A c room l) :
    Calls Tryz.prog 125 #[.pointer (some ⟨p, 0, none⟩), .int .i64 n] w (Around l n w) := by
  obtain ⟨W, hW⟩ : ∃ W, (w.alloc (.cells #[.int .i64 n] 3)).alloc (.cells #[.int .i64 0, .int .i64 0] 101) = W := ⟨_, rfl⟩
  have hk : Kept w W := by rw [← hW]; exact ((Kept.refl w).alloc _).alloc _
  have c1 : W.cell? ⟨w.heap.size, 0, none⟩ = some (.int .i64 n) := by rw [← hW]; exact ((Kept.refl _).alloc _).cell (cell_box w _ _)
  have bR : Blk W (w.heap.size + 1) 101 #[.int .i64 0, .int .i64 0] := by rw [← hW]; have := Blk.new (w.alloc (.cells #[.int .i64 n] 3)) 101 #[.int .i64 0, .int .i64 0]; rwa [World.size_alloc] at this
  have hplt := h.lt
  have hc := first_any 169 w.heap.size p c room (fun r => decide (n ≤ r.2)) A l W (enters_of Tryz.func169 (by kernel_rfl) rfl) (h.kept hk) (tells_around w.heap.size n W c1)
    (fun i h1 h2 => by have := keep_ge h.good h1 h2; exact decide_eq_true this)
  have HW := Lib.hid hW
  have hcell : ∀ W', Kept W W' → ∃ w1, w1 = W' := fun W' _ => ⟨W', rfl⟩
  have hat := has_at h.good n
  have hkl := keep_le l n
  have hyes : has l n = true → rng l n = at_ l (keep_ l n) := fun h1 => (rng_of h.good h1).2.1
  have H : Hid (SetAt W p A c room l) := h.kept hk
  have HK : Hid (Kept w W) := hk
  have HB : Hid (Blk W (w.heap.size + 1) 101 #[.int .i64 0, .int .i64 0]) := bR
  have HC : Hid (W.cell? ⟨w.heap.size, 0, none⟩ = some (.int .i64 n)) := c1
  have hfit := h.fits
  have hroom := h.room1
  clear hW h hk bR c1 hcell
  change Calls _ _ _ W (GInt (keep_ l n : Nat) W) at hc
  have HY := Lib.hid hyes
  have HA := Lib.hid hat
  clear hyes hat
  go_enter Tryz.func125, Tryz.ntmps125
  go_wp2_with fail
  rw [HW.out]
  refine hc.mono ?_
  rintro e w1 ⟨rfl, hk1⟩
  clear hc
  have HS : Hid (SetAt w1 p A c room l) := H.out.kept hk1
  have HL := Lib.hid (fun q => len_set p c room A l (w1.drewN q) (HS.out.kept ((Kept.refl w1).drewN q)))
  have d1 := HS.out.list_
  have d2 := hk1.cell HC.out
  have dB := HB.out.kept hk1
  have e0 : w1.cell? ⟨w.heap.size + 1, 0, none⟩ = some (.int .i64 0) := dB.cell 0
  have e1 : w1.cell? ⟨w.heap.size + 1, 1, none⟩ = some (.int .i64 0) := dB.cell 1
  have f0 := dB.frozen 0
  have f1 := dB.frozen 1
  have hbl := dB.lt
  have HK1 : Hid (Kept w w1) := HK.out.trans hk1
  have HBl : Hid (w.heap.size < w1.heap.size) := by show _ < _; omega
  clear HW H HK HB HC hk1 dB
  by_cases hlt : keep_ l n < l.length
  · obtain ⟨gb, rfl, hgb⟩ := HS.out.row.some_ (by omega)
    have g0 := HS.out.row.lo hlt
    have g1 := HS.out.row.hi hlt
    have hcap := HS.out.row.cap
    unfold maxLen at hcap
    have hq : ((keep_ l n : Nat) : Int) < ((l.length : Nat) : Int) := by omega
    have hq0 : (0 : Int) ≤ ((keep_ l n : Nat) : Int) := by omega
    have hne : (((keep_ l n : Nat) : Int) == ((l.length : Nat) : Int)) = false := by simp only [beq_eq_false_iff_ne]; omega
    by_cases hle : (at_ l (keep_ l n)).1 ≤ n
    · have hb := HA.out.2 ⟨hlt, hle⟩
      have hr := HY.out hb
      have hgt : decide (n < (at_ l (keep_ l n)).1) = false := by simp; omega
      have HB := Lib.hid hb
      clear hb HA HY HS
      generalize at_ l (keep_ l n) = r at *
      have HR : Hid (rng l n = (r.1, r.2)) := hr
      clear hr
      generalize r.1 = a at *
      generalize r.2 = b at *
      generalize keep_ l n = k at *
      generalize l.length = m at *
      go_wp2_with fail
      go_quiet ((go_at_call 170; exact quiet_same (HL.out _)))
      go_wp2
      exact bodyPost_ret (v := .tuple #[.agg #[.int .i64 a, .int .i64 b], .bool true]) (by simp [results, Tryz.results125, go_sem, e0, e1]) rfl
        (around_yes HB.out HR.out (((HK1.out.drewN nq).setCell (p := ⟨w.heap.size + 1, 0, none⟩) (by simp) _).setCell (p := ⟨w.heap.size + 1, 1, none⟩) (by simp) _))
    · have hb : has l n = false := by cases h : has l n with
        | false => rfl
        | true => exact absurd (HA.out.1 h).2 hle
      have hgt : decide (n < (at_ l (keep_ l n)).1) = true := by simp; omega
      have HB := Lib.hid hb
      clear hb HA HY HS hle
      generalize at_ l (keep_ l n) = r at *
      generalize r.1 = a at *
      generalize r.2 = b at *
      generalize keep_ l n = k at *
      generalize l.length = m at *
      go_wp2_with fail
      go_quiet ((go_at_call 170; exact quiet_same (HL.out _)))
      go_wp2
      exact bodyPost_ret (v := .tuple #[.agg #[.int .i64 0, .int .i64 0], .bool false]) (by simp [results, Tryz.results125, go_sem, e0, e1]) rfl
        (around_no HB.out (((HK1.out.drewN nq).setCell (p := ⟨w.heap.size + 1, 0, none⟩) (by simp) _).setCell (p := ⟨w.heap.size + 1, 1, none⟩) (by simp) _))
  · have hb : has l n = false := by cases h : has l n with
      | false => rfl
      | true => exact absurd (HA.out.1 h).1 hlt
    obtain hkm : keep_ l n = l.length := by omega
    have HB := Lib.hid hb
    clear hb HA HY HS hlt hkl
    rw [hkm]
    clear hkm
    generalize l.length = m at *
    go_wp2_with fail
    go_quiet ((go_at_call 170; exact quiet_same (HL.out _)))
    go_wp2
    exact bodyPost_ret (v := .tuple #[.agg #[.int .i64 0, .int .i64 0], .bool false]) (by simp [results, Tryz.results125, go_sem, e0, e1]) rfl
      (around_no HB.out (((HK1.out.drewN nq).setCell (p := ⟨w.heap.size + 1, 0, none⟩) (by simp) _).setCell (p := ⟨w.heap.size + 1, 1, none⟩) (by simp) _))
end Go.Proofs.YtilkgjpgoogiiaaGreat.Spn
/-
  Contracts of Has, Next, Min, Max.
-/
namespace Go.Proofs.YtilkgjpgoogiiaaGreat.Spn
open Go.RowKit SpnM Wd
theorem next_any (p c room : Nat) (A : Option Addr) (l : List R) (n : Int) (w : World) (h : SetAt w p A c room l) :
    Calls Tryz.prog 94 #[.pointer (some ⟨p, 0, none⟩), .int .i64 n] w (GInt (next l n) w) := by
  have ha := absent_set p c room A l w h
  have hn := isNumber_any n w
  have hc : Calls Tryz.prog 125 #[.pointer (some ⟨p, 0, none⟩), .int .i64 n] w fun e w' => e = .returned (.tuple #[.agg #[.int .i64 (rng l n).1, .int .i64 (rng l n).2], .bool (has l n)]) ∧ Kept w w' := around_any p c room A l n w h
  have hr : has l n = true → 0 ≤ (rng l n).2 ∧ (rng l n).2 ≤ M := fun h1 => by
    have h2 := rng_of h.good h1
    have h3 := at_bd h.good h2.1
    rw [h2.2.1]; exact ⟨by omega, h3.2.2⟩
  clear h
  by_cases hnum : num n
  · rw [numB_true hnum] at hn
    cases hb : has l n with
    | false =>
      have HE : Hid (next l n = n) := by show _ = _; unfold next; rw [if_pos hnum, hb]; rfl
      rw [hb] at hc
      clear hr hb hnum
      generalize (rng l n).1 = a at *
      generalize (rng l n).2 = b at *
      go_enter Tryz.func94, Tryz.ntmps94
      go_wp2_with (first
        | (go_at_call 123; refine ha.mono ?_; rintro e w' ⟨rfl, rfl⟩)
        | (go_at_call 124; refine hn.mono ?_; rintro e w' ⟨rfl, rfl⟩)
        | (go_at_call 125; refine hc.mono ?_; rintro e w' ⟨rfl, hk⟩))
      go_ret
      exact ⟨ret_int HE.out.symm, hk.alloc _⟩
    | true =>
      obtain ⟨h0, h1⟩ := hr hb
      rw [hb] at hc
      by_cases hm : (rng l n).2 = M
      · have HE : Hid (next l n = -1) := by show _ = _; unfold next; rw [if_pos hnum, hb, if_pos rfl, if_pos hm]
        have hmm : (rng l n).2 = 9007199254740991 := hm
        clear hr hb hnum h0 h1 hm
        rw [hmm] at hc
        clear hmm
        generalize (rng l n).1 = a at *
        go_enter Tryz.func94, Tryz.ntmps94
        go_wp2_with (first
          | (go_at_call 123; refine ha.mono ?_; rintro e w' ⟨rfl, rfl⟩)
          | (go_at_call 124; refine hn.mono ?_; rintro e w' ⟨rfl, rfl⟩)
          | (go_at_call 125; refine hc.mono ?_; rintro e w' ⟨rfl, hk⟩))
        go_ret
        exact ⟨ret_int HE.out.symm, hk.alloc _⟩
      · have HE : Hid (next l n = (rng l n).2 + 1) := by show _ = _; unfold next; rw [if_pos hnum, hb, if_pos rfl, if_neg hm]
        have hlt : (rng l n).2 < 9007199254740991 := by unfold M at h1 hm; omega
        clear hr hb hnum h1 hm
        generalize (rng l n).1 = a at *
        generalize (rng l n).2 = b at *
        go_enter Tryz.func94, Tryz.ntmps94
        go_wp2_with (first
          | (go_at_call 123; refine ha.mono ?_; rintro e w' ⟨rfl, rfl⟩)
          | (go_at_call 124; refine hn.mono ?_; rintro e w' ⟨rfl, rfl⟩)
          | (go_at_call 125; refine hc.mono ?_; rintro e w' ⟨rfl, hk⟩))
        go_ret
        exact ⟨ret_int HE.out.symm, hk.alloc _⟩
  · rw [numB_false hnum] at hn
    have HE : Hid (next l n = -1) := by show _ = _; unfold next; rw [if_neg hnum]
    clear hr hnum hc
    go_enter Tryz.func94, Tryz.ntmps94
    go_wp2_with (first
      | (go_at_call 123; refine ha.mono ?_; rintro e w' ⟨rfl, rfl⟩)
      | (go_at_call 124; refine hn.mono ?_; rintro e w' ⟨rfl, rfl⟩))
    go_ret
    exact ⟨ret_int HE.out.symm, Kept.refl _⟩
end Go.Proofs.YtilkgjpgoogiiaaGreat.Spn
