/-
  Contracts of New, Add.
-/
import Derived.Test.YtabchdolafplnaaSpnH
import Derived.Test.YtabchdolafplnaaSpnJ
namespace Go.Proofs.Ytabchdolafplnaa.Spn
open Go.RowKit SpnM Wd
set_option linter.unusedVariables false
set_option linter.unusedSimpArgs false

theorem new_bad (room : Int) (w : World) (h : room < 1 ∨ 256 < room) : Calls Try.prog 9 #[.int .i64 room] w fun e w' => e = .returned (.tuple #[.pointer none, .int .i64 2]) ∧ w = w' := by
  by_cases h1 : room < 1
  · clear h
    go_enter Try.func9, Try.ntmps9
    go_wp2
    go_ret2
    exact ⟨rfl, rfl⟩
  · have h2 : 256 < room := by omega
    clear h
    go_enter Try.func9, Try.ntmps9
    go_wp2
    go_ret2
    exact ⟨rfl, rfl⟩
/-- A new set, without numbers. -/
def News (room : Nat) (w : World) (e : Ending) (w' : World) : Prop := ∃ p, e = .returned (.tuple #[.pointer (some ⟨p, 0, none⟩), .int .i64 0]) ∧ SetAt w' p none 0 room [] ∧ w.heap.size ≤ p ∧ Kept w w'
theorem new_good (room : Nat) (w : World) (h1 : 1 ≤ room) (h2 : room ≤ 256) : Calls Try.prog 9 #[.int .i64 room] w (News room w) := by
  have h3 : (1 : Int) ≤ (room : Int) := by omega
  have h4 : (room : Int) ≤ 256 := by omega
  go_enter Try.func9, Try.ntmps9
  go_wp2
  go_ret2
  exact ⟨w.heap.size, rfl, ⟨Blk.new _ _ _, Row.nil _, good_nil, ⟨h1, h2⟩, Nat.zero_le _⟩, Nat.le_refl _, (Kept.refl w).alloc _⟩

theorem SetAt.ne {w : World} {A : Option Addr} {p c room : Nat} {l : List R} (h : SetAt w p A c room l) : own A ≠ some p := by
  intro e
  rcases h.row.form with ⟨rfl, _⟩ | ⟨g, cur, rfl, hb, _⟩
  · cases e
  · have : g = p := by simpa [own] using e
    subst this
    exact hb.ne_ h.blk (by decide) rfl

/-- What a call that may change a set hands back: a number; of what there was the set alone has turned. -/
def Did (p : Nat) (A : Option Addr) (room : Nat) (l' : List R) (n : Int) (w : World) (e : Ending) (w' : World) : Prop :=
  e = .returned (.int .i64 n) ∧ ∃ A' c', SetAt w' p A' c' room l' ∧ But (Foot p A) w w' ∧ ∀ k, own A' = some k → own A = some k ∨ w.heap.size ≤ k

theorem did_same {p c room : Nat} {A : Option Addr} {l : List R} {n : Int} {w w' : World} (h : SetAt w p A c room l) (hk : Kept w w') : Did p A room l n w (.returned (.int .i64 n)) w' :=
  ⟨rfl, A, c, h.kept hk, hk.but _, fun k e => .inl e⟩

theorem addErr_arg {room : Int} {l : List R} {lo hi : Int} (h : ¬ (num lo ∧ num hi ∧ lo ≤ hi)) : addErr room l lo hi = 2 ∧ addTo room l lo hi = l := by
  have h1 : addErr room l lo hi = 2 := by unfold addErr; rw [if_neg h]
  exact ⟨h1, by unfold addTo; rw [h1]; rfl⟩
theorem addErr_full {room : Int} {l : List R} {lo hi : Int} (h : num lo ∧ num hi ∧ lo ≤ hi) (h2 : room < (add l lo hi).length) : addErr room l lo hi = 5 ∧ addTo room l lo hi = l := by
  have h1 : addErr room l lo hi = 5 := by unfold addErr; rw [if_pos h, if_pos h2]
  exact ⟨h1, by unfold addTo; rw [h1]; rfl⟩
theorem addErr_ok {room : Int} {l : List R} {lo hi : Int} (h : num lo ∧ num hi ∧ lo ≤ hi) (h2 : ¬ room < (add l lo hi).length) : addErr room l lo hi = 0 ∧ addTo room l lo hi = add l lo hi := by
  have h1 : addErr room l lo hi = 0 := by unfold addErr; rw [if_pos h, if_neg h2]
  exact ⟨h1, by unfold addTo; rw [if_pos h1]⟩

set_option maxHeartbeats 2000000 in
set_option maxRecDepth 100000 in
theorem add_arg (p c room : Nat) (A : Option Addr) (l : List R) (lo hi : Int) (w : World) (h : SetAt w p A c room l) (hb : ¬ (num lo ∧ num hi ∧ lo ≤ hi)) :
    Calls Try.prog 12 #[.pointer (some ⟨p, 0, none⟩), .int .i64 lo, .int .i64 hi] w (Did p A room l 2 w) := by
  have hplt := h.lt
  obtain ⟨W, hW⟩ : ∃ W, (w.alloc (.cells #[.int .i64 lo] 3)).alloc (.cells #[.int .i64 hi] 3) = W := ⟨_, rfl⟩
  have hk : Kept w W := by rw [← hW]; exact ((Kept.refl w).alloc _).alloc _
  have c1 : W.cell? ⟨w.heap.size, 0, none⟩ = some (.int .i64 lo) := by rw [← hW]; exact ((Kept.refl _).alloc _).cell (cell_box w _ _)
  have c2 : W.cell? ⟨w.heap.size + 1, 0, none⟩ = some (.int .i64 hi) := by rw [← hW]; exact cell_box2 w _ _ _
  have ha := absent_set p c room A l W (h.kept hk)
  have hn1 := isNumber_any lo W
  have hn2 := isNumber_any hi W
  have H := Lib.hid h
  have HK := Lib.hid hk
  have HW := Lib.hid hW
  clear hW hk h
  by_cases h1 : num lo
  · rw [numB_true h1] at hn1
    by_cases h2 : num hi
    · rw [numB_true h2] at hn2
      have hlt : hi < lo := by rcases Int.lt_or_le hi lo with h3 | h3; exact h3; exact absurd ⟨h1, h2, h3⟩ hb
      clear hb h1 h2
      go_enter Try.func12, Try.ntmps12
      go_wp2_with fail
      rw [HW.out]
      go_wp2_with (first
        | (go_at_call 33; refine ha.mono ?_; rintro e w' ⟨rfl, rfl⟩)
        | (go_at_call 34; (first | ((with_reducible refine hn1.mono ?_); rintro e w' ⟨rfl, rfl⟩) | ((with_reducible refine hn2.mono ?_); rintro e w' ⟨rfl, rfl⟩))))
      go_ret
      exact did_same H.out HK.out
    · rw [numB_false h2] at hn2
      clear hb h1 h2
      go_enter Try.func12, Try.ntmps12
      go_wp2_with fail
      rw [HW.out]
      go_wp2_with (first
        | (go_at_call 33; refine ha.mono ?_; rintro e w' ⟨rfl, rfl⟩)
        | (go_at_call 34; (first | ((with_reducible refine hn1.mono ?_); rintro e w' ⟨rfl, rfl⟩) | ((with_reducible refine hn2.mono ?_); rintro e w' ⟨rfl, rfl⟩))))
      go_ret
      exact did_same H.out HK.out
  · rw [numB_false h1] at hn1
    clear hb h1
    go_enter Try.func12, Try.ntmps12
    go_wp2_with fail
    rw [HW.out]
    go_wp2_with (first
      | (go_at_call 33; refine ha.mono ?_; rintro e w' ⟨rfl, rfl⟩)
      | (go_at_call 34; ((with_reducible refine hn1.mono ?_); rintro e w' ⟨rfl, rfl⟩)))
    go_ret
    exact did_same H.out HK.out

end Go.Proofs.Ytabchdolafplnaa.Spn
