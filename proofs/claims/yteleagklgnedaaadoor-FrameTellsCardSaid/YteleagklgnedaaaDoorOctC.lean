/-
  Contracts of octet's greatest, Size and placeOf, and of the document's own Size and mark, of Bring: what each returns, for every input; the world stays as it was.
-/
import Derived.Test.YteleagklgnedaaaDoorOctB
import Derived.LoopN
namespace Go.Proofs.YteleagklgnedaaaDoor.Oct
open Go.RowKit OctM
set_option linter.unusedSimpArgs false
set_option linter.unusedVariables false

set_option maxRecDepth 100000 in
set_option maxHeartbeats 400000 in
theorem greatest_one (w : World) : Calls Tryd.prog 70 #[.int .i64 1] w fun e w' => e = .returned (.int .i64 63) ∧ w = w' := by
  go_enter Tryd.func70, Tryd.ntmps70
  go_wp2
  go_ret
  exact ⟨rfl, rfl⟩

set_option maxRecDepth 100000 in
set_option maxHeartbeats 400000 in
theorem greatest_two (w : World) : Calls Tryd.prog 70 #[.int .i64 2] w fun e w' => e = .returned (.int .i64 16383) ∧ w = w' := by
  go_enter Tryd.func70, Tryd.ntmps70
  go_wp2
  go_ret
  exact ⟨rfl, rfl⟩

set_option maxRecDepth 100000 in
set_option maxHeartbeats 400000 in
theorem greatest_four (w : World) : Calls Tryd.prog 70 #[.int .i64 4] w fun e w' => e = .returned (.int .i64 1073741823) ∧ w = w' := by
  go_enter Tryd.func70, Tryd.ntmps70
  go_wp2
  go_ret
  exact ⟨rfl, rfl⟩

set_option maxRecDepth 100000 in
set_option maxHeartbeats 400000 in
theorem greatest_eight (w : World) : Calls Tryd.prog 70 #[.int .i64 8] w fun e w' => e = .returned (.int .i64 9007199254740991) ∧ w = w' := by
  go_enter Tryd.func70, Tryd.ntmps70
  go_wp2
  go_ret
  exact ⟨rfl, rfl⟩

set_option maxRecDepth 100000 in
set_option maxHeartbeats 400000 in
theorem size_w0 (n : Int) (w : World) (hT : Tab w) (h : n < 0) : Calls Tryd.prog 64 #[.int .i64 n] w fun e w' => e = .returned (.int .i64 (size n)) ∧ w = w' := by
  obtain ⟨c0, c1, c2, c3⟩ := hT.cells
  have i0 := tab_index0
  have i1 := tab_index1
  have i2 := tab_index2
  have i3 := tab_index3
  clear hT
  have hs := Lib.hid (size_none n (.inl h))
  go_enter Tryd.func64, Tryd.ntmps64
  go_wp2
  go_ret
  exact ⟨ret_int hs.out.symm, rfl⟩

set_option maxRecDepth 100000 in
set_option maxHeartbeats 400000 in
theorem size_w1 (n : Int) (w : World) (hT : Tab w) (h0 : 0 ≤ n) (h : n < 64) : Calls Tryd.prog 64 #[.int .i64 n] w fun e w' => e = .returned (.int .i64 (size n)) ∧ w = w' := by
  obtain ⟨c0, c1, c2, c3⟩ := hT.cells
  have i0 := tab_index0
  have i1 := tab_index1
  have i2 := tab_index2
  have i3 := tab_index3
  clear hT
  have hs := Lib.hid (size_one n h0 h)
  go_enter Tryd.func64, Tryd.ntmps64
  go_wp2
  refine wp_loop_rounds 5 ?_
  rw [rounds_succ]
  go_wp2_with (first | (go_at_call 70; ((with_reducible refine (greatest_one _).mono ?_); rintro e w' ⟨rfl, rfl⟩)) | (go_at_call 70; ((with_reducible refine (greatest_two _).mono ?_); rintro e w' ⟨rfl, rfl⟩)) | (go_at_call 70; ((with_reducible refine (greatest_four _).mono ?_); rintro e w' ⟨rfl, rfl⟩)) | (go_at_call 70; ((with_reducible refine (greatest_eight _).mono ?_); rintro e w' ⟨rfl, rfl⟩)))
  go_ret
  exact ⟨ret_int hs.out.symm, rfl⟩

set_option maxRecDepth 100000 in
set_option maxHeartbeats 400000 in
theorem size_w2 (n : Int) (w : World) (hT : Tab w) (h0 : 64 ≤ n) (h : n < 16384) : Calls Tryd.prog 64 #[.int .i64 n] w fun e w' => e = .returned (.int .i64 (size n)) ∧ w = w' := by
  obtain ⟨c0, c1, c2, c3⟩ := hT.cells
  have i0 := tab_index0
  have i1 := tab_index1
  have i2 := tab_index2
  have i3 := tab_index3
  clear hT
  have hs := Lib.hid (size_two n h0 h)
  go_enter Tryd.func64, Tryd.ntmps64
  go_wp2
  refine wp_loop_rounds 5 ?_
  rw [rounds_succ]
  go_wp2_with (first | (go_at_call 70; ((with_reducible refine (greatest_one _).mono ?_); rintro e w' ⟨rfl, rfl⟩)) | (go_at_call 70; ((with_reducible refine (greatest_two _).mono ?_); rintro e w' ⟨rfl, rfl⟩)) | (go_at_call 70; ((with_reducible refine (greatest_four _).mono ?_); rintro e w' ⟨rfl, rfl⟩)) | (go_at_call 70; ((with_reducible refine (greatest_eight _).mono ?_); rintro e w' ⟨rfl, rfl⟩)))
  rw [rounds_succ]
  go_wp2_with (first | (go_at_call 70; ((with_reducible refine (greatest_one _).mono ?_); rintro e w' ⟨rfl, rfl⟩)) | (go_at_call 70; ((with_reducible refine (greatest_two _).mono ?_); rintro e w' ⟨rfl, rfl⟩)) | (go_at_call 70; ((with_reducible refine (greatest_four _).mono ?_); rintro e w' ⟨rfl, rfl⟩)) | (go_at_call 70; ((with_reducible refine (greatest_eight _).mono ?_); rintro e w' ⟨rfl, rfl⟩)))
  go_ret
  exact ⟨ret_int hs.out.symm, rfl⟩

set_option maxRecDepth 100000 in
set_option maxHeartbeats 400000 in
theorem size_w4 (n : Int) (w : World) (hT : Tab w) (h0 : 16384 ≤ n) (h : n < 1073741824) : Calls Tryd.prog 64 #[.int .i64 n] w fun e w' => e = .returned (.int .i64 (size n)) ∧ w = w' := by
  obtain ⟨c0, c1, c2, c3⟩ := hT.cells
  have i0 := tab_index0
  have i1 := tab_index1
  have i2 := tab_index2
  have i3 := tab_index3
  clear hT
  have hs := Lib.hid (size_four n h0 h)
  go_enter Tryd.func64, Tryd.ntmps64
  go_wp2
  refine wp_loop_rounds 5 ?_
  rw [rounds_succ]
  go_wp2_with (first | (go_at_call 70; ((with_reducible refine (greatest_one _).mono ?_); rintro e w' ⟨rfl, rfl⟩)) | (go_at_call 70; ((with_reducible refine (greatest_two _).mono ?_); rintro e w' ⟨rfl, rfl⟩)) | (go_at_call 70; ((with_reducible refine (greatest_four _).mono ?_); rintro e w' ⟨rfl, rfl⟩)) | (go_at_call 70; ((with_reducible refine (greatest_eight _).mono ?_); rintro e w' ⟨rfl, rfl⟩)))
  rw [rounds_succ]
  go_wp2_with (first | (go_at_call 70; ((with_reducible refine (greatest_one _).mono ?_); rintro e w' ⟨rfl, rfl⟩)) | (go_at_call 70; ((with_reducible refine (greatest_two _).mono ?_); rintro e w' ⟨rfl, rfl⟩)) | (go_at_call 70; ((with_reducible refine (greatest_four _).mono ?_); rintro e w' ⟨rfl, rfl⟩)) | (go_at_call 70; ((with_reducible refine (greatest_eight _).mono ?_); rintro e w' ⟨rfl, rfl⟩)))
  rw [rounds_succ]
  go_wp2_with (first | (go_at_call 70; ((with_reducible refine (greatest_one _).mono ?_); rintro e w' ⟨rfl, rfl⟩)) | (go_at_call 70; ((with_reducible refine (greatest_two _).mono ?_); rintro e w' ⟨rfl, rfl⟩)) | (go_at_call 70; ((with_reducible refine (greatest_four _).mono ?_); rintro e w' ⟨rfl, rfl⟩)) | (go_at_call 70; ((with_reducible refine (greatest_eight _).mono ?_); rintro e w' ⟨rfl, rfl⟩)))
  go_ret
  exact ⟨ret_int hs.out.symm, rfl⟩

set_option maxRecDepth 100000 in
set_option maxHeartbeats 400000 in
theorem size_w8 (n : Int) (w : World) (hT : Tab w) (h0 : 1073741824 ≤ n) (h : n ≤ 9007199254740991) : Calls Tryd.prog 64 #[.int .i64 n] w fun e w' => e = .returned (.int .i64 (size n)) ∧ w = w' := by
  obtain ⟨c0, c1, c2, c3⟩ := hT.cells
  have i0 := tab_index0
  have i1 := tab_index1
  have i2 := tab_index2
  have i3 := tab_index3
  clear hT
  have hs := Lib.hid (size_eight n h0 h)
  go_enter Tryd.func64, Tryd.ntmps64
  go_wp2
  refine wp_loop_rounds 5 ?_
  rw [rounds_succ]
  go_wp2_with (first | (go_at_call 70; ((with_reducible refine (greatest_one _).mono ?_); rintro e w' ⟨rfl, rfl⟩)) | (go_at_call 70; ((with_reducible refine (greatest_two _).mono ?_); rintro e w' ⟨rfl, rfl⟩)) | (go_at_call 70; ((with_reducible refine (greatest_four _).mono ?_); rintro e w' ⟨rfl, rfl⟩)) | (go_at_call 70; ((with_reducible refine (greatest_eight _).mono ?_); rintro e w' ⟨rfl, rfl⟩)))
  rw [rounds_succ]
  go_wp2_with (first | (go_at_call 70; ((with_reducible refine (greatest_one _).mono ?_); rintro e w' ⟨rfl, rfl⟩)) | (go_at_call 70; ((with_reducible refine (greatest_two _).mono ?_); rintro e w' ⟨rfl, rfl⟩)) | (go_at_call 70; ((with_reducible refine (greatest_four _).mono ?_); rintro e w' ⟨rfl, rfl⟩)) | (go_at_call 70; ((with_reducible refine (greatest_eight _).mono ?_); rintro e w' ⟨rfl, rfl⟩)))
  rw [rounds_succ]
  go_wp2_with (first | (go_at_call 70; ((with_reducible refine (greatest_one _).mono ?_); rintro e w' ⟨rfl, rfl⟩)) | (go_at_call 70; ((with_reducible refine (greatest_two _).mono ?_); rintro e w' ⟨rfl, rfl⟩)) | (go_at_call 70; ((with_reducible refine (greatest_four _).mono ?_); rintro e w' ⟨rfl, rfl⟩)) | (go_at_call 70; ((with_reducible refine (greatest_eight _).mono ?_); rintro e w' ⟨rfl, rfl⟩)))
  rw [rounds_succ]
  go_wp2_with (first | (go_at_call 70; ((with_reducible refine (greatest_one _).mono ?_); rintro e w' ⟨rfl, rfl⟩)) | (go_at_call 70; ((with_reducible refine (greatest_two _).mono ?_); rintro e w' ⟨rfl, rfl⟩)) | (go_at_call 70; ((with_reducible refine (greatest_four _).mono ?_); rintro e w' ⟨rfl, rfl⟩)) | (go_at_call 70; ((with_reducible refine (greatest_eight _).mono ?_); rintro e w' ⟨rfl, rfl⟩)))
  go_ret
  exact ⟨ret_int hs.out.symm, rfl⟩

set_option maxRecDepth 100000 in
set_option maxHeartbeats 400000 in
theorem size_w9 (n : Int) (w : World) (hT : Tab w) (h : 9007199254740991 < n) : Calls Tryd.prog 64 #[.int .i64 n] w fun e w' => e = .returned (.int .i64 (size n)) ∧ w = w' := by
  obtain ⟨c0, c1, c2, c3⟩ := hT.cells
  have i0 := tab_index0
  have i1 := tab_index1
  have i2 := tab_index2
  have i3 := tab_index3
  clear hT
  have hs := Lib.hid (size_none n (.inr h))
  go_enter Tryd.func64, Tryd.ntmps64
  go_wp2
  refine wp_loop_rounds 5 ?_
  rw [rounds_succ]
  go_wp2_with (first | (go_at_call 70; ((with_reducible refine (greatest_one _).mono ?_); rintro e w' ⟨rfl, rfl⟩)) | (go_at_call 70; ((with_reducible refine (greatest_two _).mono ?_); rintro e w' ⟨rfl, rfl⟩)) | (go_at_call 70; ((with_reducible refine (greatest_four _).mono ?_); rintro e w' ⟨rfl, rfl⟩)) | (go_at_call 70; ((with_reducible refine (greatest_eight _).mono ?_); rintro e w' ⟨rfl, rfl⟩)))
  rw [rounds_succ]
  go_wp2_with (first | (go_at_call 70; ((with_reducible refine (greatest_one _).mono ?_); rintro e w' ⟨rfl, rfl⟩)) | (go_at_call 70; ((with_reducible refine (greatest_two _).mono ?_); rintro e w' ⟨rfl, rfl⟩)) | (go_at_call 70; ((with_reducible refine (greatest_four _).mono ?_); rintro e w' ⟨rfl, rfl⟩)) | (go_at_call 70; ((with_reducible refine (greatest_eight _).mono ?_); rintro e w' ⟨rfl, rfl⟩)))
  rw [rounds_succ]
  go_wp2_with (first | (go_at_call 70; ((with_reducible refine (greatest_one _).mono ?_); rintro e w' ⟨rfl, rfl⟩)) | (go_at_call 70; ((with_reducible refine (greatest_two _).mono ?_); rintro e w' ⟨rfl, rfl⟩)) | (go_at_call 70; ((with_reducible refine (greatest_four _).mono ?_); rintro e w' ⟨rfl, rfl⟩)) | (go_at_call 70; ((with_reducible refine (greatest_eight _).mono ?_); rintro e w' ⟨rfl, rfl⟩)))
  rw [rounds_succ]
  go_wp2_with (first | (go_at_call 70; ((with_reducible refine (greatest_one _).mono ?_); rintro e w' ⟨rfl, rfl⟩)) | (go_at_call 70; ((with_reducible refine (greatest_two _).mono ?_); rintro e w' ⟨rfl, rfl⟩)) | (go_at_call 70; ((with_reducible refine (greatest_four _).mono ?_); rintro e w' ⟨rfl, rfl⟩)) | (go_at_call 70; ((with_reducible refine (greatest_eight _).mono ?_); rintro e w' ⟨rfl, rfl⟩)))
  rw [rounds_succ]
  go_wp2_with (first | (go_at_call 70; ((with_reducible refine (greatest_one _).mono ?_); rintro e w' ⟨rfl, rfl⟩)) | (go_at_call 70; ((with_reducible refine (greatest_two _).mono ?_); rintro e w' ⟨rfl, rfl⟩)) | (go_at_call 70; ((with_reducible refine (greatest_four _).mono ?_); rintro e w' ⟨rfl, rfl⟩)) | (go_at_call 70; ((with_reducible refine (greatest_eight _).mono ?_); rintro e w' ⟨rfl, rfl⟩)))
  go_ret
  exact ⟨ret_int hs.out.symm, rfl⟩

set_option maxRecDepth 100000 in
theorem size_any (n : Int) (w : World) (hT : Tab w) : Calls Tryd.prog 64 #[.int .i64 n] w fun e w' => e = .returned (.int .i64 (size n)) ∧ w = w' := by
  rcases Int.lt_or_le n 0 with h | h0
  · exact size_w0 n w hT h
  · rcases Int.lt_or_le n 64 with h | h1
    · exact size_w1 n w hT h0 h
    · rcases Int.lt_or_le n 16384 with h | h2
      · exact size_w2 n w hT h1 h
      · rcases Int.lt_or_le n 1073741824 with h | h3
        · exact size_w4 n w hT h2 h
        · rcases Int.lt_or_le 9007199254740991 n with h | h4
          · exact size_w9 n w hT h
          · exact size_w8 n w hT h3 h4

set_option maxRecDepth 100000 in
set_option maxHeartbeats 400000 in
theorem place_one (s : Int) (w : World) (hT : Tab w) (h : s = 1) : Calls Tryd.prog 69 #[.int .i64 s] w fun e w' => e = .returned (.int .i64 (place s)) ∧ w = w' := by
  obtain ⟨c0, c1, c2, c3⟩ := hT.cells
  have i0 := tab_index0
  have i1 := tab_index1
  have i2 := tab_index2
  have i3 := tab_index3
  clear hT
  subst h
  have HP := Lib.hid (show place 1 = 0 by decide)
  go_enter Tryd.func69, Tryd.ntmps69
  go_wp2
  refine wp_loop_rounds 5 ?_
  rw [rounds_succ]
  go_wp2
  go_ret
  exact ⟨ret_int HP.out.symm, rfl⟩

set_option maxRecDepth 100000 in
set_option maxHeartbeats 400000 in
theorem place_two (s : Int) (w : World) (hT : Tab w) (h : s = 2) : Calls Tryd.prog 69 #[.int .i64 s] w fun e w' => e = .returned (.int .i64 (place s)) ∧ w = w' := by
  obtain ⟨c0, c1, c2, c3⟩ := hT.cells
  have i0 := tab_index0
  have i1 := tab_index1
  have i2 := tab_index2
  have i3 := tab_index3
  clear hT
  subst h
  have HP := Lib.hid (show place 2 = 1 by decide)
  go_enter Tryd.func69, Tryd.ntmps69
  go_wp2
  refine wp_loop_rounds 5 ?_
  rw [rounds_succ]
  go_wp2
  rw [rounds_succ]
  go_wp2
  go_ret
  exact ⟨ret_int HP.out.symm, rfl⟩

set_option maxRecDepth 100000 in
set_option maxHeartbeats 400000 in
theorem place_four (s : Int) (w : World) (hT : Tab w) (h : s = 4) : Calls Tryd.prog 69 #[.int .i64 s] w fun e w' => e = .returned (.int .i64 (place s)) ∧ w = w' := by
  obtain ⟨c0, c1, c2, c3⟩ := hT.cells
  have i0 := tab_index0
  have i1 := tab_index1
  have i2 := tab_index2
  have i3 := tab_index3
  clear hT
  subst h
  have HP := Lib.hid (show place 4 = 2 by decide)
  go_enter Tryd.func69, Tryd.ntmps69
  go_wp2
  refine wp_loop_rounds 5 ?_
  rw [rounds_succ]
  go_wp2
  rw [rounds_succ]
  go_wp2
  rw [rounds_succ]
  go_wp2
  go_ret
  exact ⟨ret_int HP.out.symm, rfl⟩

set_option maxRecDepth 100000 in
set_option maxHeartbeats 400000 in
theorem place_eight (s : Int) (w : World) (hT : Tab w) (h : s = 8) : Calls Tryd.prog 69 #[.int .i64 s] w fun e w' => e = .returned (.int .i64 (place s)) ∧ w = w' := by
  obtain ⟨c0, c1, c2, c3⟩ := hT.cells
  have i0 := tab_index0
  have i1 := tab_index1
  have i2 := tab_index2
  have i3 := tab_index3
  clear hT
  subst h
  have HP := Lib.hid (show place 8 = 3 by decide)
  go_enter Tryd.func69, Tryd.ntmps69
  go_wp2
  refine wp_loop_rounds 5 ?_
  rw [rounds_succ]
  go_wp2
  rw [rounds_succ]
  go_wp2
  rw [rounds_succ]
  go_wp2
  rw [rounds_succ]
  go_wp2
  go_ret
  exact ⟨ret_int HP.out.symm, rfl⟩

set_option maxRecDepth 100000 in
set_option maxHeartbeats 400000 in
theorem place_none (s : Int) (w : World) (hT : Tab w) (h : ¬ four s) : Calls Tryd.prog 69 #[.int .i64 s] w fun e w' => e = .returned (.int .i64 (place s)) ∧ w = w' := by
  obtain ⟨c0, c1, c2, c3⟩ := hT.cells
  have i0 := tab_index0
  have i1 := tab_index1
  have i2 := tab_index2
  have i3 := tab_index3
  clear hT
  have h1 : ((1 : Int) == s) = false := by simp only [beq_eq_false_iff_ne]; unfold four at h; omega
  have h2 : ((2 : Int) == s) = false := by simp only [beq_eq_false_iff_ne]; unfold four at h; omega
  have h4 : ((4 : Int) == s) = false := by simp only [beq_eq_false_iff_ne]; unfold four at h; omega
  have h8 : ((8 : Int) == s) = false := by simp only [beq_eq_false_iff_ne]; unfold four at h; omega
  have HP := Lib.hid (show place s = -1 by unfold four at h; unfold place; rw [if_neg (by omega), if_neg (by omega), if_neg (by omega), if_neg (by omega)])
  clear h
  go_enter Tryd.func69, Tryd.ntmps69
  go_wp2
  refine wp_loop_rounds 5 ?_
  rw [rounds_succ]
  go_wp2
  rw [rounds_succ]
  go_wp2
  rw [rounds_succ]
  go_wp2
  rw [rounds_succ]
  go_wp2
  rw [rounds_succ]
  go_wp2
  go_ret
  exact ⟨ret_int HP.out.symm, rfl⟩

set_option maxRecDepth 100000 in
theorem placeOf_any (s : Int) (w : World) (hT : Tab w) : Calls Tryd.prog 69 #[.int .i64 s] w fun e w' => e = .returned (.int .i64 (place s)) ∧ w = w' := by
  by_cases h : four s
  · rcases h with h | h | h | h
    · exact place_one s w hT h
    · exact place_two s w hT h
    · exact place_four s w hT h
    · exact place_eight s w hT h
  · exact place_none s w hT h

set_option maxRecDepth 100000 in
theorem rsize_eq (n : Int) : size n = if n < 0 then 0 else if 9007199254740991 < n then 0 else if n < 64 then 1 else if n < 16384 then 2 else if n < 1073741824 then 4 else 8 := by
  unfold size; split
  · rename_i h; rcases h with h | h
    · rw [if_pos h]
    · rw [if_neg (by omega), if_pos h]
  · rename_i h; rw [if_neg (show ¬ n < 0 by omega), if_neg (show ¬ 9007199254740991 < n by omega)]

set_option maxRecDepth 100000 in
set_option maxHeartbeats 400000 in
theorem rsize_any (n : Int) (w : World) : Calls Tryd.prog 54 #[.int .i64 n] w fun e w' => e = .returned (.int .i64 (size n)) ∧ w = w' := by
  have hs := Lib.hid (rsize_eq n)
  go_enter Tryd.func54, Tryd.ntmps54
  go_wp2
  all_goals
    go_ret
    refine ⟨ret_int ?_, rfl⟩
    rw [hs.out]
    repeat (first | rw [if_pos (by omega)] | rw [if_neg (by omega)])

set_option maxRecDepth 100000 in
set_option maxHeartbeats 400000 in
theorem mark_any (s : Int) (w : World) (h : four s) : Calls Tryd.prog 65 #[.int .i64 s] w fun e w' => e = .returned (.int .i64 (64 * place s)) ∧ w = w' := by
  rcases h with rfl | rfl | rfl | rfl
  all_goals
    go_enter Tryd.func65, Tryd.ntmps65
    go_wp2
    go_ret
    exact ⟨rfl, rfl⟩

set_option maxRecDepth 100000 in
set_option maxHeartbeats 400000 in
theorem bring_any (i n : Int) (w : World) (h0 : 0 < n) (h1 : n ≤ 4611686018427387904) : Calls Tryd.prog 32 #[.int .i64 i, .int .i64 n] w fun e w' => e = .returned (.int .i64 (i % n)) ∧ w = w' := by
  have hm0 := Int.emod_nonneg i (show n ≠ 0 by omega)
  have hm1 := Int.emod_lt_of_pos i h0
  have ht : i.tmod n = if 0 ≤ i ∨ i % n = 0 then i % n else i % n - n := by
    rw [Int.tmod_eq_emod]
    by_cases hi : 0 ≤ i ∨ n ∣ i
    · rw [if_pos hi, if_pos (by rcases hi with h | h; exact .inl h; exact .inr (Int.emod_eq_zero_of_dvd h))]; omega
    · rw [if_neg hi, if_neg (by rintro (h | h); exact hi (.inl h); exact hi (.inr (Int.dvd_of_emod_eq_zero h)))]; omega
  by_cases hi : 0 ≤ i ∨ i % n = 0
  · rw [if_pos hi] at ht
    have hz : (n == 0) = false := by simp only [beq_eq_false_iff_ne]; omega
    go_enter Tryd.func32, Tryd.ntmps32
    go_wp2
    go_ret
    exact ⟨rfl, rfl⟩
  · rw [if_neg hi] at ht
    have hz : (n == 0) = false := by simp only [beq_eq_false_iff_ne]; omega
    go_enter Tryd.func32, Tryd.ntmps32
    go_wp2
    go_ret
    exact ⟨rfl, rfl⟩

end Go.Proofs.YteleagklgnedaaaDoor.Oct
