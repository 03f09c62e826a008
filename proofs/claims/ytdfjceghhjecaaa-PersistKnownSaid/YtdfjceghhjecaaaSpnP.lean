/-
  Contracts of Add, Cut, Copy and Same, whatever they are given.
-/
import Derived.Test.YtdfjceghhjecaaaSpnLN
import Derived.Test.YtdfjceghhjecaaaSpnKE
namespace Go.Proofs.Ytdfjceghhjecaaa.Spn
open Go.RowKit SpnM Wd
set_option linter.unusedVariables false
set_option linter.unusedSimpArgs false

set_option maxRecDepth 100000 in
/-- Add. -/
theorem add_any (p c room : Nat) (A : Option Addr) (l : List R) (lo hi : Int) (w : World) (h : SetAt w p A c room l) :
    Calls Try.prog 21 #[.pointer (some ⟨p, 0, none⟩), .int .i64 lo, .int .i64 hi] w (Did p A room (addTo room l lo hi) (addErr room l lo hi) w) := by
  by_cases hok : num lo ∧ num hi ∧ lo ≤ hi
  · have hfit := h.fits
    have hf := add_full (room := room) h.good (by omega) hok.2.2
    by_cases hb : (room : Int) < (add l lo hi).length
    · obtain ⟨e1, e2⟩ := addErr_full hok hb
      rw [e1, e2]
      have := hf.1 hb
      exact add_full_any p c room A l lo hi w h hok ⟨this.1, by omega⟩
    · obtain ⟨e1, e2⟩ := addErr_ok hok hb
      rw [e1, e2]
      have hft := from_le_to h.good hok.2.2
      rcases Nat.lt_or_ge (from_ l lo) (to_ l hi) with h1 | h1
      · exact add_join_any p c room A l lo hi w h hok h1
      · refine add_new_any p c room A l lo hi w h hok ⟨by omega, ?_⟩
        rcases Nat.lt_or_ge l.length room with h2 | h2
        · exact h2
        · exact absurd (hf.2 ⟨by omega, by omega⟩) hb
  · obtain ⟨e1, e2⟩ := addErr_arg (room := room) (l := l) hok
    rw [e1, e2]
    exact add_arg p c room A l lo hi w h hok

set_option maxRecDepth 100000 in
theorem set_store {w W5 w' : World} {p c room n' c' : Nat} {A A' : Option Addr} {l l' : List R} (h : SetAt W5 p A c room l) (hk : Kept w W5) (hrow : Row w' A' n' c' l') (hbut : But (fun k => own A = some k) W5 w')
    (hfr : ∀ k, own A' = some k → own A = some k ∨ W5.heap.size ≤ k) (hg : Rises l') (hfit : l'.length ≤ room) :
    SetAt (w'.setCell ⟨p, 1, none⟩ (.slice A' n' c')) p A' c' room l' ∧ But (Foot p A) w (w'.setCell ⟨p, 1, none⟩ (.slice A' n' c')) ∧ ∀ k, own A' = some k → own A = some k ∨ w.heap.size ≤ k := by
  obtain rfl := hrow.len
  have hb : Blk w' p 77 #[.int .i64 room, .slice A l.length c] := h.blk.but hbut h.ne
  have hne : own A' ≠ some p := fun e => by
    rcases hfr p e with h1 | h1
    · exact h.ne h1
    · have := h.lt; omega
  refine ⟨⟨by have := hb.set_ 1 (.slice A' l'.length c'); simpa using this, hrow.same_ fun k e => ?_, hg, h.room1, hfit⟩, ?_, fun k e => ?_⟩
  · exact Below.heap_setCell _ _ _ _ (fun e' => hne (by rw [e]; simpa using e'))
  · have h1 : But (Foot p A) w w' := (hk.but _).trans hbut (fun i _ e => .inr e)
    exact h1.setCell (.inl rfl) _
  · rcases hfr k e with h1 | h1
    · exact .inl h1
    · exact .inr (Nat.le_trans hk.size h1)

set_option maxRecDepth 100000 in
/-- A row is cut at its first range. -/
theorem row_trim {w : World} {g n c : Nat} {l : List R} (b : Int) (h : Row w (some ⟨g, 0, none⟩) n c l) (hn : 0 < n) : Row (w.setCell ⟨g, 0, none⟩ (.int .i64 (max (at_ l 0).1 b))) (some ⟨g, 0, none⟩) n c (trim l b) := by
  refine ⟨by rw [trim_length]; exact h.1, ?_⟩
  have hs := (h.2.stored 0 (.int .i64 (max (at_ l 0).1 b))).1
  have e : (flat l).set 0 (.int .i64 (max (at_ l 0).1 b)) = flat (trim l b) := by
    cases l with
    | nil => have := h.1; simp at this; omega
    | cons r t => rfl
  rw [e] at hs; exact hs

/-- A copy, in memory of its own. -/
def Copied (room : Nat) (l : List R) (w : World) (e : Ending) (w' : World) : Prop :=
  ∃ q B d, e = .returned (.pointer (some ⟨q, 0, none⟩)) ∧ SetAt w' q B d room l ∧ Kept w w' ∧ w.heap.size ≤ q ∧ ∀ k, own B = some k → w.heap.size ≤ k
end Go.Proofs.Ytdfjceghhjecaaa.Spn
