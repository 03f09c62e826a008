/-
  Contracts of Has, Next, Min, Max.
-/
import Derived.Test.YtabchdolafplnaaSpnG
namespace Go.Proofs.Ytabchdolafplnaa.Spn
open Go.RowKit SpnM Wd
set_option linter.unusedVariables false
set_option linter.unusedSimpArgs false

set_option maxHeartbeats 1000000 in
set_option maxRecDepth 100000 in
theorem has_any (p c room : Nat) (A : Option Addr) (l : List R) (n : Int) (w : World) (h : SetAt w p A c room l) :
    Calls Try.prog 32 #[.pointer (some ⟨p, 0, none⟩), .int .i64 n] w (GBool (has l n) w) := by
  have hc : Calls Try.prog 54 #[.pointer (some ⟨p, 0, none⟩), .int .i64 n] w fun e w' => e = .returned (.tuple #[.agg #[.int .i64 (rng l n).1, .int .i64 (rng l n).2], .bool (has l n)]) ∧ Kept w w' := around_any p c room A l n w h
  clear h
  generalize (rng l n).1 = a at *
  generalize (rng l n).2 = b at *
  generalize has l n = t at *
  go_enter Try.func32, Try.ntmps32
  go_wp2_with (go_at_call 54; refine hc.mono ?_; rintro e w' ⟨rfl, hk⟩)
  go_ret
  exact ⟨rfl, hk.alloc _⟩

set_option maxHeartbeats 1000000 in
set_option maxRecDepth 100000 in
theorem next_any (p c room : Nat) (A : Option Addr) (l : List R) (n : Int) (w : World) (h : SetAt w p A c room l) :
    Calls Try.prog 31 #[.pointer (some ⟨p, 0, none⟩), .int .i64 n] w (GInt (next l n) w) := by
  have ha := absent_set p c room A l w h
  have hn := isNumber_any n w
  have hc : Calls Try.prog 54 #[.pointer (some ⟨p, 0, none⟩), .int .i64 n] w fun e w' => e = .returned (.tuple #[.agg #[.int .i64 (rng l n).1, .int .i64 (rng l n).2], .bool (has l n)]) ∧ Kept w w' := around_any p c room A l n w h
  have hr : has l n = true → 0 ≤ (rng l n).2 ∧ (rng l n).2 ≤ M := fun h1 => by
    have h2 := rng_of h.good h1
    have h3 := at_bd h.good h2.1
    rw [h2.2.1]; exact ⟨by omega, h3.2.2⟩
  clear h
  by_cases hnum : num n
  · rw [numB_true hnum] at hn
    cases hb : has l n with
    | false =>
      have HE : Hid (next l n = n) := by show _ = _; unfold next; rw [if_pos hnum, hb]; rfl
      rw [hb] at hc
      clear hr hb hnum
      generalize (rng l n).1 = a at *
      generalize (rng l n).2 = b at *
      go_enter Try.func31, Try.ntmps31
      go_wp2_with (first
        | (go_at_call 33; refine ha.mono ?_; rintro e w' ⟨rfl, rfl⟩)
        | (go_at_call 34; refine hn.mono ?_; rintro e w' ⟨rfl, rfl⟩)
        | (go_at_call 54; refine hc.mono ?_; rintro e w' ⟨rfl, hk⟩))
      go_ret
      exact ⟨ret_int HE.out.symm, hk.alloc _⟩
    | true =>
      obtain ⟨h0, h1⟩ := hr hb
      rw [hb] at hc
      by_cases hm : (rng l n).2 = M
      · have HE : Hid (next l n = -1) := by show _ = _; unfold next; rw [if_pos hnum, hb, if_pos rfl, if_pos hm]
        have hmm : (rng l n).2 = 9007199254740991 := hm
        clear hr hb hnum h0 h1 hm
        rw [hmm] at hc
        clear hmm
        generalize (rng l n).1 = a at *
        go_enter Try.func31, Try.ntmps31
        go_wp2_with (first
          | (go_at_call 33; refine ha.mono ?_; rintro e w' ⟨rfl, rfl⟩)
          | (go_at_call 34; refine hn.mono ?_; rintro e w' ⟨rfl, rfl⟩)
          | (go_at_call 54; refine hc.mono ?_; rintro e w' ⟨rfl, hk⟩))
        go_ret
        exact ⟨ret_int HE.out.symm, hk.alloc _⟩
      · have HE : Hid (next l n = (rng l n).2 + 1) := by show _ = _; unfold next; rw [if_pos hnum, hb, if_pos rfl, if_neg hm]
        have hlt : (rng l n).2 < 9007199254740991 := by unfold M at h1 hm; omega
        clear hr hb hnum h1 hm
        generalize (rng l n).1 = a at *
        generalize (rng l n).2 = b at *
        go_enter Try.func31, Try.ntmps31
        go_wp2_with (first
          | (go_at_call 33; refine ha.mono ?_; rintro e w' ⟨rfl, rfl⟩)
          | (go_at_call 34; refine hn.mono ?_; rintro e w' ⟨rfl, rfl⟩)
          | (go_at_call 54; refine hc.mono ?_; rintro e w' ⟨rfl, hk⟩))
        go_ret
        exact ⟨ret_int HE.out.symm, hk.alloc _⟩
  · rw [numB_false hnum] at hn
    have HE : Hid (next l n = -1) := by show _ = _; unfold next; rw [if_neg hnum]
    clear hr hnum hc
    go_enter Try.func31, Try.ntmps31
    go_wp2_with (first
      | (go_at_call 33; refine ha.mono ?_; rintro e w' ⟨rfl, rfl⟩)
      | (go_at_call 34; refine hn.mono ?_; rintro e w' ⟨rfl, rfl⟩))
    go_ret
    exact ⟨ret_int HE.out.symm, Kept.refl _⟩

theorem mn_nil : mn [] = -1 := rfl
theorem mn_at {l : List R} (h : 0 < l.length) : mn l = (at_ l 0).1 := by cases l with
  | nil => simp at h
  | cons r t => rfl
theorem mx_at {l : List R} (h : 0 < l.length) : mx l = (at_ l (l.length - 1)).2 := by
  unfold mx; rw [List.getLast?_eq_getElem?, at_some (by omega)]
set_option maxHeartbeats 1000000 in
set_option maxRecDepth 100000 in
theorem min_any (p c room : Nat) (A : Option Addr) (l : List R) (w : World) (h : SetAt w p A c room l) :
    Calls Try.prog 28 #[.pointer (some ⟨p, 0, none⟩)] w (GInt (mn l) w) := by
  have hl := len_set p c room A l w h
  rcases Nat.eq_zero_or_pos l.length with h0 | h0
  · have HE : Hid (mn l = -1) := by show _ = _; rw [List.eq_nil_of_length_eq_zero h0]; rfl
    rw [h0] at hl
    clear h h0
    go_enter Try.func28, Try.ntmps28
    go_wp2_with (go_at_call 29; refine hl.mono ?_; rintro e w' ⟨rfl, rfl⟩)
    go_ret
    exact ⟨ret_int HE.out.symm, Kept.refl _⟩
  · have HE := Lib.hid (mn_at h0)
    obtain ⟨g, rfl, hg⟩ := h.row.some_ h0
    have c0 := h.row.lo h0
    have d0 := h.list_
    have hne : (((l.length : Nat) : Int) == 0) = false := by simp only [beq_eq_false_iff_ne]; omega
    have hz : 0 < ((l.length : Nat) : Int) := by omega
    clear h
    rw [Nat.zero_mul] at c0
    generalize (at_ l 0).1 = a at *
    generalize l.length = m at *
    go_enter Try.func28, Try.ntmps28
    go_wp2_with (go_at_call 29; refine hl.mono ?_; rintro e w' ⟨rfl, rfl⟩)
    go_ret
    exact ⟨ret_int HE.out.symm, Kept.refl _⟩
set_option maxHeartbeats 1000000 in
set_option maxRecDepth 100000 in
theorem max_any (p c room : Nat) (A : Option Addr) (l : List R) (w : World) (h : SetAt w p A c room l) :
    Calls Try.prog 30 #[.pointer (some ⟨p, 0, none⟩)] w (GInt (mx l) w) := by
  have hl := len_set p c room A l w h
  rcases Nat.eq_zero_or_pos l.length with h0 | h0
  · have HE : Hid (mx l = -1) := by show _ = _; rw [List.eq_nil_of_length_eq_zero h0]; rfl
    rw [h0] at hl
    clear h h0
    go_enter Try.func30, Try.ntmps30
    go_wp2_with (go_at_call 29; refine hl.mono ?_; rintro e w' ⟨rfl, rfl⟩)
    go_ret
    exact ⟨ret_int HE.out.symm, Kept.refl _⟩
  · have HE := Lib.hid (mx_at h0)
    obtain ⟨g, rfl, hg⟩ := h.row.some_ h0
    have c0 := h.row.hi (k := l.length - 1) (by omega)
    have d0 := h.list_
    have hcap := h.row.cap
    unfold maxLen at hcap
    have hne : (((l.length : Nat) : Int) == 0) = false := by simp only [beq_eq_false_iff_ne]; omega
    have hz : 0 < ((l.length : Nat) : Int) := by omega
    have hn1 : (((l.length : Nat) : Int) - 1).toNat = l.length - 1 := by omega
    have hz1 : (0 : Int) ≤ ((l.length : Nat) : Int) - 1 := by omega
    have hwr : IntKind.i64.wrap (((l.length : Nat) : Int) - 1) = ((l.length : Nat) : Int) - 1 := IntWalk.i64_in _ (by omega)
    clear h
    generalize (at_ l (l.length - 1)).2 = a at *
    generalize l.length = m at *
    go_enter Try.func30, Try.ntmps30
    go_wp2_with (go_at_call 29; refine hl.mono ?_; rintro e w' ⟨rfl, rfl⟩)
    go_quiet (fail)
    go_wp2
    go_ret
    exact ⟨ret_int HE.out.symm, (Kept.refl _).drewN _⟩

end Go.Proofs.Ytabchdolafplnaa.Spn
