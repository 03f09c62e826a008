/-
  Contracts of octet's greatest, Size and placeOf, and of the document's own Size and mark, of Bring: what each returns, for every input; the world stays as it was.
-/
import Derived.Test.YtganelhlpobdjaaDoorOctB
import Derived.LoopN
import Derived.ScopeJumps
import Derived.WalkMore
import Derived.Laws.BitsAllLaws
import Derived.Laws.BitsLemmas
import Derived.Laws.AppendOwnNone
import Derived.Laws.BytesArg
import Derived.Laws.CopyOwn
import Derived.Laws.MakeOwn
import Derived.Deep.RegionWith
import Derived.StillTailTactics
import Derived.Deep.QuietTactic
import Derived.BigQuiet
namespace Go.Proofs.YtganelhlpobdjaaDoor.Oct
open Go.RowKit OctM
set_option linter.unusedSimpArgs false
set_option linter.unusedVariables false

set_option maxRecDepth 100000 in
set_option maxHeartbeats 400000 in
theorem greatest_one (w : World) : Calls Tryd.prog 70 #[.int .i64 1] w fun e w' => e = .returned (.int .i64 63) ∧ w = w' := by
  go_enter Tryd.func70, Tryd.ntmps70
  go_wp2
  go_ret
  exact ⟨rfl, rfl⟩

set_option maxRecDepth 100000 in
set_option maxHeartbeats 400000 in
theorem greatest_two (w : World) : Calls Tryd.prog 70 #[.int .i64 2] w fun e w' => e = .returned (.int .i64 16383) ∧ w = w' := by
  go_enter Tryd.func70, Tryd.ntmps70
  go_wp2
  go_ret
  exact ⟨rfl, rfl⟩

set_option maxRecDepth 100000 in
set_option maxHeartbeats 400000 in
theorem greatest_four (w : World) : Calls Tryd.prog 70 #[.int .i64 4] w fun e w' => e = .returned (.int .i64 1073741823) ∧ w = w' := by
  go_enter Tryd.func70, Tryd.ntmps70
  go_wp2
  go_ret
  exact ⟨rfl, rfl⟩

set_option maxRecDepth 100000 in
set_option maxHeartbeats 400000 in
theorem greatest_eight (w : World) : Calls Tryd.prog 70 #[.int .i64 8] w fun e w' => e = .returned (.int .i64 9007199254740991) ∧ w = w' := by
  go_enter Tryd.func70, Tryd.ntmps70
  go_wp2
  go_ret
  exact ⟨rfl, rfl⟩

set_option maxRecDepth 100000 in
set_option maxHeartbeats 400000 in
theorem size_w0 (n : Int) (w : World) (hT : Tab w) (h : n < 0) : Calls Tryd.prog 64 #[.int .i64 n] w fun e w' => e = .returned (.int .i64 (size n)) ∧ w = w' := by
  obtain ⟨c0, c1, c2, c3⟩ := hT.cells
  have i0 := tab_index0
  have i1 := tab_index1
  have i2 := tab_index2
  have i3 := tab_index3
  clear hT
  have hs := Lib.hid (size_none n (.inl h))
  go_enter Tryd.func64, Tryd.ntmps64
  go_wp2
  go_ret
  exact ⟨ret_int hs.out.symm, rfl⟩

set_option maxRecDepth 100000 in
set_option maxHeartbeats 400000 in
theorem size_w1 (n : Int) (w : World) (hT : Tab w) (h0 : 0 ≤ n) (h : n < 64) : Calls Tryd.prog 64 #[.int .i64 n] w fun e w' => e = .returned (.int .i64 (size n)) ∧ w = w' := by
  obtain ⟨c0, c1, c2, c3⟩ := hT.cells
  have i0 := tab_index0
  have i1 := tab_index1
  have i2 := tab_index2
  have i3 := tab_index3
  clear hT
  have hs := Lib.hid (size_one n h0 h)
  go_enter Tryd.func64, Tryd.ntmps64
  go_wp2
  refine wp_loop_rounds 5 ?_
  rw [rounds_succ]
  go_wp2_with (first | (go_at_call 70; ((with_reducible refine (greatest_one _).mono ?_); rintro e w' ⟨rfl, rfl⟩)) | (go_at_call 70; ((with_reducible refine (greatest_two _).mono ?_); rintro e w' ⟨rfl, rfl⟩)) | (go_at_call 70; ((with_reducible refine (greatest_four _).mono ?_); rintro e w' ⟨rfl, rfl⟩)) | (go_at_call 70; ((with_reducible refine (greatest_eight _).mono ?_); rintro e w' ⟨rfl, rfl⟩)))
  go_ret
  exact ⟨ret_int hs.out.symm, rfl⟩

set_option maxRecDepth 100000 in
set_option maxHeartbeats 400000 in
theorem size_w2 (n : Int) (w : World) (hT : Tab w) (h0 : 64 ≤ n) (h : n < 16384) : Calls Tryd.prog 64 #[.int .i64 n] w fun e w' => e = .returned (.int .i64 (size n)) ∧ w = w' := by
  obtain ⟨c0, c1, c2, c3⟩ := hT.cells
  have i0 := tab_index0
  have i1 := tab_index1
  have i2 := tab_index2
  have i3 := tab_index3
  clear hT
  have hs := Lib.hid (size_two n h0 h)
  go_enter Tryd.func64, Tryd.ntmps64
  go_wp2
  refine wp_loop_rounds 5 ?_
  rw [rounds_succ]
  go_wp2_with (first | (go_at_call 70; ((with_reducible refine (greatest_one _).mono ?_); rintro e w' ⟨rfl, rfl⟩)) | (go_at_call 70; ((with_reducible refine (greatest_two _).mono ?_); rintro e w' ⟨rfl, rfl⟩)) | (go_at_call 70; ((with_reducible refine (greatest_four _).mono ?_); rintro e w' ⟨rfl, rfl⟩)) | (go_at_call 70; ((with_reducible refine (greatest_eight _).mono ?_); rintro e w' ⟨rfl, rfl⟩)))
  rw [rounds_succ]
  go_wp2_with (first | (go_at_call 70; ((with_reducible refine (greatest_one _).mono ?_); rintro e w' ⟨rfl, rfl⟩)) | (go_at_call 70; ((with_reducible refine (greatest_two _).mono ?_); rintro e w' ⟨rfl, rfl⟩)) | (go_at_call 70; ((with_reducible refine (greatest_four _).mono ?_); rintro e w' ⟨rfl, rfl⟩)) | (go_at_call 70; ((with_reducible refine (greatest_eight _).mono ?_); rintro e w' ⟨rfl, rfl⟩)))
  go_ret
  exact ⟨ret_int hs.out.symm, rfl⟩

set_option maxRecDepth 100000 in
set_option maxHeartbeats 400000 in
theorem size_w4 (n : Int) (w : World) (hT : Tab w) (h0 : 16384 ≤ n) (h : n < 1073741824) : Calls Tryd.prog 64 #[.int .i64 n] w fun e w' => e = .returned (.int .i64 (size n)) ∧ w = w' := by
  obtain ⟨c0, c1, c2, c3⟩ := hT.cells
  have i0 := tab_index0
  have i1 := tab_index1
  have i2 := tab_index2
  have i3 := tab_index3
  clear hT
  have hs := Lib.hid (size_four n h0 h)
  go_enter Tryd.func64, Tryd.ntmps64
  go_wp2
  refine wp_loop_rounds 5 ?_
  rw [rounds_succ]
  go_wp2_with (first | (go_at_call 70; ((with_reducible refine (greatest_one _).mono ?_); rintro e w' ⟨rfl, rfl⟩)) | (go_at_call 70; ((with_reducible refine (greatest_two _).mono ?_); rintro e w' ⟨rfl, rfl⟩)) | (go_at_call 70; ((with_reducible refine (greatest_four _).mono ?_); rintro e w' ⟨rfl, rfl⟩)) | (go_at_call 70; ((with_reducible refine (greatest_eight _).mono ?_); rintro e w' ⟨rfl, rfl⟩)))
  rw [rounds_succ]
  go_wp2_with (first | (go_at_call 70; ((with_reducible refine (greatest_one _).mono ?_); rintro e w' ⟨rfl, rfl⟩)) | (go_at_call 70; ((with_reducible refine (greatest_two _).mono ?_); rintro e w' ⟨rfl, rfl⟩)) | (go_at_call 70; ((with_reducible refine (greatest_four _).mono ?_); rintro e w' ⟨rfl, rfl⟩)) | (go_at_call 70; ((with_reducible refine (greatest_eight _).mono ?_); rintro e w' ⟨rfl, rfl⟩)))
  rw [rounds_succ]
  go_wp2_with (first | (go_at_call 70; ((with_reducible refine (greatest_one _).mono ?_); rintro e w' ⟨rfl, rfl⟩)) | (go_at_call 70; ((with_reducible refine (greatest_two _).mono ?_); rintro e w' ⟨rfl, rfl⟩)) | (go_at_call 70; ((with_reducible refine (greatest_four _).mono ?_); rintro e w' ⟨rfl, rfl⟩)) | (go_at_call 70; ((with_reducible refine (greatest_eight _).mono ?_); rintro e w' ⟨rfl, rfl⟩)))
  go_ret
  exact ⟨ret_int hs.out.symm, rfl⟩

set_option maxRecDepth 100000 in
set_option maxHeartbeats 400000 in
theorem size_w8 (n : Int) (w : World) (hT : Tab w) (h0 : 1073741824 ≤ n) (h : n ≤ 9007199254740991) : Calls Tryd.prog 64 #[.int .i64 n] w fun e w' => e = .returned (.int .i64 (size n)) ∧ w = w' := by
  obtain ⟨c0, c1, c2, c3⟩ := hT.cells
  have i0 := tab_index0
  have i1 := tab_index1
  have i2 := tab_index2
  have i3 := tab_index3
  clear hT
  have hs := Lib.hid (size_eight n h0 h)
  go_enter Tryd.func64, Tryd.ntmps64
  go_wp2
  refine wp_loop_rounds 5 ?_
  rw [rounds_succ]
  go_wp2_with (first | (go_at_call 70; ((with_reducible refine (greatest_one _).mono ?_); rintro e w' ⟨rfl, rfl⟩)) | (go_at_call 70; ((with_reducible refine (greatest_two _).mono ?_); rintro e w' ⟨rfl, rfl⟩)) | (go_at_call 70; ((with_reducible refine (greatest_four _).mono ?_); rintro e w' ⟨rfl, rfl⟩)) | (go_at_call 70; ((with_reducible refine (greatest_eight _).mono ?_); rintro e w' ⟨rfl, rfl⟩)))
  rw [rounds_succ]
  go_wp2_with (first | (go_at_call 70; ((with_reducible refine (greatest_one _).mono ?_); rintro e w' ⟨rfl, rfl⟩)) | (go_at_call 70; ((with_reducible refine (greatest_two _).mono ?_); rintro e w' ⟨rfl, rfl⟩)) | (go_at_call 70; ((with_reducible refine (greatest_four _).mono ?_); rintro e w' ⟨rfl, rfl⟩)) | (go_at_call 70; ((with_reducible refine (greatest_eight _).mono ?_); rintro e w' ⟨rfl, rfl⟩)))
  rw [rounds_succ]
  go_wp2_with (first | (go_at_call 70; ((with_reducible refine (greatest_one _).mono ?_); rintro e w' ⟨rfl, rfl⟩)) | (go_at_call 70; ((with_reducible refine (greatest_two _).mono ?_); rintro e w' ⟨rfl, rfl⟩)) | (go_at_call 70; ((with_reducible refine (greatest_four _).mono ?_); rintro e w' ⟨rfl, rfl⟩)) | (go_at_call 70; ((with_reducible refine (greatest_eight _).mono ?_); rintro e w' ⟨rfl, rfl⟩)))
  rw [rounds_succ]
  go_wp2_with (first | (go_at_call 70; ((with_reducible refine (greatest_one _).mono ?_); rintro e w' ⟨rfl, rfl⟩)) | (go_at_call 70; ((with_reducible refine (greatest_two _).mono ?_); rintro e w' ⟨rfl, rfl⟩)) | (go_at_call 70; ((with_reducible refine (greatest_four _).mono ?_); rintro e w' ⟨rfl, rfl⟩)) | (go_at_call 70; ((with_reducible refine (greatest_eight _).mono ?_); rintro e w' ⟨rfl, rfl⟩)))
  go_ret
  exact ⟨ret_int hs.out.symm, rfl⟩

set_option maxRecDepth 100000 in
set_option maxHeartbeats 400000 in
theorem size_w9 (n : Int) (w : World) (hT : Tab w) (h : 9007199254740991 < n) : Calls Tryd.prog 64 #[.int .i64 n] w fun e w' => e = .returned (.int .i64 (size n)) ∧ w = w' := by
  obtain ⟨c0, c1, c2, c3⟩ := hT.cells
  have i0 := tab_index0
  have i1 := tab_index1
  have i2 := tab_index2
  have i3 := tab_index3
  clear hT
  have hs := Lib.hid (size_none n (.inr h))
  go_enter Tryd.func64, Tryd.ntmps64
  go_wp2
  refine wp_loop_rounds 5 ?_
  rw [rounds_succ]
  go_wp2_with (first | (go_at_call 70; ((with_reducible refine (greatest_one _).mono ?_); rintro e w' ⟨rfl, rfl⟩)) | (go_at_call 70; ((with_reducible refine (greatest_two _).mono ?_); rintro e w' ⟨rfl, rfl⟩)) | (go_at_call 70; ((with_reducible refine (greatest_four _).mono ?_); rintro e w' ⟨rfl, rfl⟩)) | (go_at_call 70; ((with_reducible refine (greatest_eight _).mono ?_); rintro e w' ⟨rfl, rfl⟩)))
  rw [rounds_succ]
  go_wp2_with (first | (go_at_call 70; ((with_reducible refine (greatest_one _).mono ?_); rintro e w' ⟨rfl, rfl⟩)) | (go_at_call 70; ((with_reducible refine (greatest_two _).mono ?_); rintro e w' ⟨rfl, rfl⟩)) | (go_at_call 70; ((with_reducible refine (greatest_four _).mono ?_); rintro e w' ⟨rfl, rfl⟩)) | (go_at_call 70; ((with_reducible refine (greatest_eight _).mono ?_); rintro e w' ⟨rfl, rfl⟩)))
  rw [rounds_succ]
  go_wp2_with (first | (go_at_call 70; ((with_reducible refine (greatest_one _).mono ?_); rintro e w' ⟨rfl, rfl⟩)) | (go_at_call 70; ((with_reducible refine (greatest_two _).mono ?_); rintro e w' ⟨rfl, rfl⟩)) | (go_at_call 70; ((with_reducible refine (greatest_four _).mono ?_); rintro e w' ⟨rfl, rfl⟩)) | (go_at_call 70; ((with_reducible refine (greatest_eight _).mono ?_); rintro e w' ⟨rfl, rfl⟩)))
  rw [rounds_succ]
  go_wp2_with (first | (go_at_call 70; ((with_reducible refine (greatest_one _).mono ?_); rintro e w' ⟨rfl, rfl⟩)) | (go_at_call 70; ((with_reducible refine (greatest_two _).mono ?_); rintro e w' ⟨rfl, rfl⟩)) | (go_at_call 70; ((with_reducible refine (greatest_four _).mono ?_); rintro e w' ⟨rfl, rfl⟩)) | (go_at_call 70; ((with_reducible refine (greatest_eight _).mono ?_); rintro e w' ⟨rfl, rfl⟩)))
  rw [rounds_succ]
  go_wp2_with (first | (go_at_call 70; ((with_reducible refine (greatest_one _).mono ?_); rintro e w' ⟨rfl, rfl⟩)) | (go_at_call 70; ((with_reducible refine (greatest_two _).mono ?_); rintro e w' ⟨rfl, rfl⟩)) | (go_at_call 70; ((with_reducible refine (greatest_four _).mono ?_); rintro e w' ⟨rfl, rfl⟩)) | (go_at_call 70; ((with_reducible refine (greatest_eight _).mono ?_); rintro e w' ⟨rfl, rfl⟩)))
  go_ret
  exact ⟨ret_int hs.out.symm, rfl⟩

set_option maxRecDepth 100000 in
theorem size_any (n : Int) (w : World) (hT : Tab w) : Calls Tryd.prog 64 #[.int .i64 n] w fun e w' => e = .returned (.int .i64 (size n)) ∧ w = w' := by
  rcases Int.lt_or_le n 0 with h | h0
  · exact size_w0 n w hT h
  · rcases Int.lt_or_le n 64 with h | h1
    · exact size_w1 n w hT h0 h
    · rcases Int.lt_or_le n 16384 with h | h2
      · exact size_w2 n w hT h1 h
      · rcases Int.lt_or_le n 1073741824 with h | h3
        · exact size_w4 n w hT h2 h
        · rcases Int.lt_or_le 9007199254740991 n with h | h4
          · exact size_w9 n w hT h
          · exact size_w8 n w hT h3 h4

set_option maxRecDepth 100000 in
set_option maxHeartbeats 400000 in
theorem place_one (s : Int) (w : World) (hT : Tab w) (h : s = 1) : Calls Tryd.prog 69 #[.int .i64 s] w fun e w' => e = .returned (.int .i64 (place s)) ∧ w = w' := by
  obtain ⟨c0, c1, c2, c3⟩ := hT.cells
  have i0 := tab_index0
  have i1 := tab_index1
  have i2 := tab_index2
  have i3 := tab_index3
  clear hT
  subst h
  have HP := Lib.hid (show place 1 = 0 by decide)
  go_enter Tryd.func69, Tryd.ntmps69
  go_wp2
  refine wp_loop_rounds 5 ?_
  rw [rounds_succ]
  go_wp2
  go_ret
  exact ⟨ret_int HP.out.symm, rfl⟩

set_option maxRecDepth 100000 in
set_option maxHeartbeats 400000 in
theorem place_two (s : Int) (w : World) (hT : Tab w) (h : s = 2) : Calls Tryd.prog 69 #[.int .i64 s] w fun e w' => e = .returned (.int .i64 (place s)) ∧ w = w' := by
  obtain ⟨c0, c1, c2, c3⟩ := hT.cells
  have i0 := tab_index0
  have i1 := tab_index1
  have i2 := tab_index2
  have i3 := tab_index3
  clear hT
  subst h
  have HP := Lib.hid (show place 2 = 1 by decide)
  go_enter Tryd.func69, Tryd.ntmps69
  go_wp2
  refine wp_loop_rounds 5 ?_
  rw [rounds_succ]
  go_wp2
  rw [rounds_succ]
  go_wp2
  go_ret
  exact ⟨ret_int HP.out.symm, rfl⟩

set_option maxRecDepth 100000 in
set_option maxHeartbeats 400000 in
theorem place_four (s : Int) (w : World) (hT : Tab w) (h : s = 4) : Calls Tryd.prog 69 #[.int .i64 s] w fun e w' => e = .returned (.int .i64 (place s)) ∧ w = w' := by
  obtain ⟨c0, c1, c2, c3⟩ := hT.cells
  have i0 := tab_index0
  have i1 := tab_index1
  have i2 := tab_index2
  have i3 := tab_index3
  clear hT
  subst h
  have HP := Lib.hid (show place 4 = 2 by decide)
  go_enter Tryd.func69, Tryd.ntmps69
  go_wp2
  refine wp_loop_rounds 5 ?_
  rw [rounds_succ]
  go_wp2
  rw [rounds_succ]
  go_wp2
  rw [rounds_succ]
  go_wp2
  go_ret
  exact ⟨ret_int HP.out.symm, rfl⟩

set_option maxRecDepth 100000 in
set_option maxHeartbeats 400000 in
theorem place_eight (s : Int) (w : World) (hT : Tab w) (h : s = 8) : Calls Tryd.prog 69 #[.int .i64 s] w fun e w' => e = .returned (.int .i64 (place s)) ∧ w = w' := by
  obtain ⟨c0, c1, c2, c3⟩ := hT.cells
  have i0 := tab_index0
  have i1 := tab_index1
  have i2 := tab_index2
  have i3 := tab_index3
  clear hT
  subst h
  have HP := Lib.hid (show place 8 = 3 by decide)
  go_enter Tryd.func69, Tryd.ntmps69
  go_wp2
  refine wp_loop_rounds 5 ?_
  rw [rounds_succ]
  go_wp2
  rw [rounds_succ]
  go_wp2
  rw [rounds_succ]
  go_wp2
  rw [rounds_succ]
  go_wp2
  go_ret
  exact ⟨ret_int HP.out.symm, rfl⟩

set_option maxRecDepth 100000 in
set_option maxHeartbeats 400000 in
theorem place_none (s : Int) (w : World) (hT : Tab w) (h : ¬ four s) : Calls Tryd.prog 69 #[.int .i64 s] w fun e w' => e = .returned (.int .i64 (place s)) ∧ w = w' := by
  obtain ⟨c0, c1, c2, c3⟩ := hT.cells
  have i0 := tab_index0
  have i1 := tab_index1
  have i2 := tab_index2
  have i3 := tab_index3
  clear hT
  have h1 : ((1 : Int) == s) = false := by simp only [beq_eq_false_iff_ne]; unfold four at h; omega
  have h2 : ((2 : Int) == s) = false := by simp only [beq_eq_false_iff_ne]; unfold four at h; omega
  have h4 : ((4 : Int) == s) = false := by simp only [beq_eq_false_iff_ne]; unfold four at h; omega
  have h8 : ((8 : Int) == s) = false := by simp only [beq_eq_false_iff_ne]; unfold four at h; omega
  have HP := Lib.hid (show place s = -1 by unfold four at h; unfold place; rw [if_neg (by omega), if_neg (by omega), if_neg (by omega), if_neg (by omega)])
  clear h
  go_enter Tryd.func69, Tryd.ntmps69
  go_wp2
  refine wp_loop_rounds 5 ?_
  rw [rounds_succ]
  go_wp2
  rw [rounds_succ]
  go_wp2
  rw [rounds_succ]
  go_wp2
  rw [rounds_succ]
  go_wp2
  rw [rounds_succ]
  go_wp2
  go_ret
  exact ⟨ret_int HP.out.symm, rfl⟩

set_option maxRecDepth 100000 in
theorem placeOf_any (s : Int) (w : World) (hT : Tab w) : Calls Tryd.prog 69 #[.int .i64 s] w fun e w' => e = .returned (.int .i64 (place s)) ∧ w = w' := by
  by_cases h : four s
  · rcases h with h | h | h | h
    · exact place_one s w hT h
    · exact place_two s w hT h
    · exact place_four s w hT h
    · exact place_eight s w hT h
  · exact place_none s w hT h

set_option maxRecDepth 100000 in
theorem rsize_eq (n : Int) : size n = if n < 0 then 0 else if 9007199254740991 < n then 0 else if n < 64 then 1 else if n < 16384 then 2 else if n < 1073741824 then 4 else 8 := by
  unfold size; split
  · rename_i h; rcases h with h | h
    · rw [if_pos h]
    · rw [if_neg (by omega), if_pos h]
  · rename_i h; rw [if_neg (show ¬ n < 0 by omega), if_neg (show ¬ 9007199254740991 < n by omega)]

set_option maxRecDepth 100000 in
set_option maxHeartbeats 400000 in
theorem rsize_any (n : Int) (w : World) : Calls Tryd.prog 54 #[.int .i64 n] w fun e w' => e = .returned (.int .i64 (size n)) ∧ w = w' := by
  have hs := Lib.hid (rsize_eq n)
  go_enter Tryd.func54, Tryd.ntmps54
  go_wp2
  all_goals
    go_ret
    refine ⟨ret_int ?_, rfl⟩
    rw [hs.out]
    repeat (first | rw [if_pos (by omega)] | rw [if_neg (by omega)])

set_option maxRecDepth 100000 in
set_option maxHeartbeats 400000 in
theorem mark_any (s : Int) (w : World) (h : four s) : Calls Tryd.prog 65 #[.int .i64 s] w fun e w' => e = .returned (.int .i64 (64 * place s)) ∧ w = w' := by
  rcases h with rfl | rfl | rfl | rfl
  all_goals
    go_enter Tryd.func65, Tryd.ntmps65
    go_wp2
    go_ret
    exact ⟨rfl, rfl⟩

set_option maxRecDepth 100000 in
set_option maxHeartbeats 400000 in
theorem bring_any (i n : Int) (w : World) (h0 : 0 < n) (h1 : n ≤ 4611686018427387904) : Calls Tryd.prog 32 #[.int .i64 i, .int .i64 n] w fun e w' => e = .returned (.int .i64 (i % n)) ∧ w = w' := by
  have hm0 := Int.emod_nonneg i (show n ≠ 0 by omega)
  have hm1 := Int.emod_lt_of_pos i h0
  have ht : i.tmod n = if 0 ≤ i ∨ i % n = 0 then i % n else i % n - n := by
    rw [Int.tmod_eq_emod]
    by_cases hi : 0 ≤ i ∨ n ∣ i
    · rw [if_pos hi, if_pos (by rcases hi with h | h; exact .inl h; exact .inr (Int.emod_eq_zero_of_dvd h))]; omega
    · rw [if_neg hi, if_neg (by rintro (h | h); exact hi (.inl h); exact hi (.inr (Int.dvd_of_emod_eq_zero h)))]; omega
  by_cases hi : 0 ≤ i ∨ i % n = 0
  · rw [if_pos hi] at ht
    have hz : (n == 0) = false := by simp only [beq_eq_false_iff_ne]; omega
    go_enter Tryd.func32, Tryd.ntmps32
    go_wp2
    go_ret
    exact ⟨rfl, rfl⟩
  · rw [if_neg hi] at ht
    have hz : (n == 0) = false := by simp only [beq_eq_false_iff_ne]; omega
    go_enter Tryd.func32, Tryd.ntmps32
    go_wp2
    go_ret
    exact ⟨rfl, rfl⟩

end Go.Proofs.YtganelhlpobdjaaDoor.Oct

/-
  Contract of octet's decode: what it returns of every bytes; the world stays as it was.
-/
namespace Go.Proofs.YtganelhlpobdjaaDoor.Oct
open Go.RowKit OctM
set_option linter.unusedSimpArgs false
set_option linter.unusedVariables false

set_option maxRecDepth 100000 in
theorem decode_none (A : Option Addr) (c : Nat) (w : World) : Calls Tryd.prog 66 #[.slice A 0 c] w fun e w' => e = .returned (.tuple #[.int .i64 0, .int .i64 0, .int .i64 3]) ∧ w = w' := by
  go_enter Tryd.func66, Tryd.ntmps66
  go_wp2
  go_step3
  go_wp2
  rw [Exit.noGoto_ret]
  go_ret3
  exact ⟨rfl, rfl⟩

set_option maxRecDepth 100000 in
/-- A byte behind a number: the low eight bits are free. -/
theorem or_byte (a y : Int) (h0 : 0 ≤ a) (h1 : a ≤ 18014398509481984) (h2 : 0 ≤ y) (h3 : y < 256) : bits .or .i64 (a * 256) y = 256 * a + y := by
  show IntKind.i64.wrap (((BitVec.ofInt 64 (a * 256) ||| BitVec.ofInt 64 y).toNat : Nat) : Int) = _
  have e1 : (BitVec.ofInt 64 (a * 256)).toNat = 2 ^ 8 * a.toNat := by rw [BitVec.toNat_ofInt]; omega
  have e2 : (BitVec.ofInt 64 y).toNat = y.toNat := by rw [BitVec.toNat_ofInt]; omega
  have e3 : 2 ^ 8 * a.toNat + y.toNat = 2 ^ 8 * a.toNat ||| y.toNat := Nat.two_pow_add_eq_or_of_lt (by omega) _
  rw [BitVec.toNat_or, e1, e2, ← e3, IntKind.wrap_i64]
  omega

/-- The end of the loop: what is told. -/
def Told (l : List Int) (w : World) (e : Ending) (w' : World) : Prop := e = .returned (.tuple #[.int .i64 (dnum l), .int .i64 (dlen l), .int .i64 (derr l)]) ∧ w = w'

/-- What holds at each jump: k bytes are read. -/
def AtJump (b o n c : Nat) (l : List Int) (w : World) (a' : Act) (w' : World) : Prop :=
  w' = w ∧ ∃ (k : Nat) (N I : Int), N = acc l k ∧ I = k ∧ 1 ≤ k ∧ (k : Int) ≤ lenOf (hd l) ∧ ∃ (u6 u7 u8 u9 u10 u11 u12 u13 u14 u15 u16 u17 u18 u19 u20 u21 u22 u23 u24 u25 u26 u27 u28 u29 u30 u31 u32 u33 u34 u35 u36 : Value),
    a' = { tmps := #[.slice (some ⟨b, o, none⟩) n c, undef, .int .i64 N, .int .i64 (lenOf (hd l)), .int .i64 0, .int .i64 I, u6, u7, u8, u9, u10, u11, u12, u13, u14, u15, u16, u17, u18, u19, u20, u21, u22, u23, u24, u25, u26, u27, u28, u29, u30, u31, u32, u33, u34, u35, u36, undef, undef, undef, undef], defers := [] }

set_option maxHeartbeats 1000000 in
set_option maxRecDepth 100000 in
theorem decode_some (b o n c : Nat) (l : List Int) (w : World) (hT : Tab w) (hl : l.length = n) (hb : allByte l) (hn : 0 < n) (hm : n ≤ 9223372036854775807)
    (hc : ∀ k, k < n → w.cell? ⟨b, o + k, none⟩ = some (.int .u8 (nth l k))) : Calls Tryd.prog 66 #[.slice (some ⟨b, o, none⟩) n c] w (Told l w) := by
  have h0 : w.cell? ⟨b, o, none⟩ = some (.int .u8 (hd l)) := by have := hc 0 hn; rw [Nat.add_zero, nth_zero] at this; exact this
  obtain ⟨hx0, hx1⟩ : 0 ≤ hd l ∧ hd l < 256 := by have := getD_byte hb 0; rwa [nth_zero] at this
  obtain ⟨hs0, hs1⟩ := lenOf_bd (hd l)
  have hcell : w.cell? ⟨0, (hd l / 64).toNat, none⟩ = some (.int .i64 (lenOf (hd l))) := by
    have hat := lenOf_at _ hx0 hx1
    obtain ⟨c0, c1, c2, c3⟩ := hT.cells
    have h : (hd l / 64).toNat = 0 ∨ (hd l / 64).toNat = 1 ∨ (hd l / 64).toNat = 2 ∨ (hd l / 64).toNat = 3 := by omega
    rcases h with h | h | h | h <;> rw [h] at hat ⊢ <;> simp at hat <;> rw [← hat] <;> assumption
  clear hT
  have HB := Lib.hid hb
  have HL := Lib.hid hl
  have HC := Lib.hid hc
  have Hacc1 := Lib.hid (acc_one l)
  clear hb hc
  by_cases hlt : (n : Int) < lenOf (hd l)
  · have HT := Lib.hid (derr_trunc l (.inr (by rw [hl]; exact hlt)))
    clear hl
    go_enter Tryd.func66, Tryd.ntmps66
    go_wp2
    go_step3
    go_wp2
    rw [Exit.noGoto_ret]
    go_ret3
    obtain ⟨t1, t2, t3⟩ := HT.out
    exact ⟨by rw [t1, t2, t3]; rfl, rfl⟩
  · have HG := Lib.hid (fun h2 => derr_great l (by omega) (by omega) h2)
    have HW := Lib.hid (fun h2 => derr_well l (by omega) (by omega) h2)
    have HR := Lib.hid (acc_raw l)
    clear hl
    go_enter Tryd.func66, Tryd.ntmps66
    go_wp2
    refine wp_scope_jumps 0 (AtJump b o n c l w) (fun a' _ => 8 - (intOf (a'.tmps.getD 5 undef)).toNat) rfl ?_ ?_
    · go_wp2
      go_step3
      by_cases h1 : 1 < lenOf (hd l)
      · have hc1 := HC.out 1 (by omega)
        have hg1 := getD_byte HB.out 1
        have hor := or_byte (hd l % 64) (nth l 1) (by omega) (by omega) hg1.1 hg1.2
        have H2 := Lib.hid (show 256 * (hd l % 64) + nth l 1 = acc l 2 by rw [acc_step l 1 (by omega) (by rw [HL.out]; omega), acc_one])
        clear hc1
        have hc1 := HC.out 1 (by omega)
        go_wp2
        go_step3
        exact ⟨rfl, rfl, 2, _, _, H2.out, rfl, by omega, by omega, _, _, _, _, _, _, _, _, _, _, _, _, _, _, _, _, _, _, _, _, _, _, _, _, _, _, _, _, _, _, _, rfl⟩
      · have hs : lenOf (hd l) = 1 := by omega
        have hraw : hd l % 64 = raw l := by rw [← HR.out, hs]; exact (acc_one l).symm
        have HS := Lib.hid hs
        have HX := Lib.hid hraw
        clear hs hraw
        go_wp2
        simp only [Exit.jump]
        go_ret3
        obtain ⟨t1, t2, t3⟩ := HW.out (by rw [← HX.out]; assumption)
        exact ⟨by rw [t1, t2, t3, ← HX.out]; rfl, rfl⟩
    · rintro a' w' ⟨rfl, k, N, I, rfl, rfl, hk1, hk2, u6, u7, u8, u9, u10, u11, u12, u13, u14, u15, u16, u17, u18, u19, u20, u21, u22, u23, u24, u25, u26, u27, u28, u29, u30, u31, u32, u33, u34, u35, u36, rfl⟩
      have hk8 : k ≤ 8 := by omega
      obtain ⟨ha0, ha1⟩ := acc_large l HB.out k hk1 (by rw [HL.out]; omega) hk8
      by_cases h1 : (k : Int) < lenOf (hd l)
      · have hc1 := HC.out k (by omega)
        have hg1 := getD_byte HB.out k
        obtain ⟨hb0, hb1⟩ := acc_small l HB.out k hk1 (by rw [HL.out]; omega) (by omega)
        have hor := or_byte (acc l k) (nth l k) hb0 hb1 hg1.1 hg1.2
        have H2 := Lib.hid (show 256 * acc l k + nth l k = acc l (k + 1) by rw [acc_step l k hk1 (by rw [HL.out]; omega)])
        go_wp2
        go_step3
        refine ⟨rfl, ⟨rfl, k + 1, _, _, H2.out, by omega, by omega, by omega, _, _, _, _, _, _, _, _, _, _, _, _, _, _, _, _, _, _, _, _, _, _, _, _, _, _, _, _, _, _, _, rfl⟩, ?_⟩
        simp [intOf]; omega
      · have HX := Lib.hid (show acc l k = raw l by rw [← HR.out]; congr 1; omega)
        go_wp2
        · simp only [Exit.jump]
          go_ret3
          obtain ⟨t1, t2, t3⟩ := HG.out (by rw [← HX.out]; assumption)
          exact ⟨by rw [t1, t2, t3]; rfl, rfl⟩
        · simp only [Exit.jump]
          go_ret3
          obtain ⟨t1, t2, t3⟩ := HW.out (by rw [← HX.out]; assumption)
          exact ⟨by rw [t1, t2, t3, ← HX.out]; rfl, rfl⟩

set_option maxRecDepth 100000 in
/-- decode, of whatever bytes. -/
theorem decode_any (A : Option Addr) (n c : Nat) (l : List Int) (w : World) (hT : Tab w) (hb : Byt w A n c l) : Calls Tryd.prog 66 #[.slice A n c] w (Told l w) := by
  have hm := hb.most
  have hcap := hb.cap
  unfold maxLen at hm
  rcases Nat.eq_zero_or_pos n with rfl | hn
  · have hl : l = [] := List.eq_nil_of_length_eq_zero hb.len
    subst hl
    exact (decode_none A c w).mono fun e w' h => h
  · obtain ⟨b, o, rfl, _, hc⟩ := hb.lies hn
    exact decode_some b o n c l w hT hb.len hb.byte hn (by omega) hc

end Go.Proofs.YtganelhlpobdjaaDoor.Oct

/-
  Contracts of CopyBytes, EqBytes and bytes.Clone: bytes in memory of their own; bytes compared. For every slice, nil too.
-/
namespace Go.Proofs.YtganelhlpobdjaaDoor.Oct
open Go.RowKit OctM
set_option linter.unusedSimpArgs false
set_option linter.unusedVariables false

set_option maxRecDepth 100000 in
theorem ints_one (l : List Int) : ∀ u ∈ l.map (Value.int .u8), u.oneCell' = true := ints_oneCell .u8 l

set_option maxRecDepth 100000 in
/-- Bytes behind bytes of the call's own. -/
theorem wpList_app {w : World} {ops : Array Oper} {rest : List Oper} {o : Oper} {a : Act} {Q : Exit → Act → World → Prop} (hgd : o.guard = none) (s x : Operand)
    (ho : o.op = .call { callee := .builtin .append, args := #[s, x], argTypes := #[27, 27] })
    (base : Nat) (v : Value) (l : List Int) (hs : a.eval s = v) (hown : Own w base v l) (A : Option Addr) (n c : Nat) (m : List Int) (hx : a.eval x = .slice A n c) (hb : Byt w A n c m)
    (hbig : l.length + n ≤ 140737488355328) (hbase : base ≤ w.heap.size)
    (h : ∀ v' w', Own w' base v' (l ++ m) → w.grownBy w' v.ownBlock → (v'.ownBlock = v.ownBlock ∨ v'.ownBlock = some w.heap.size) → wpList Tryd.prog ops Q rest (a.put o.dst v') w') : wpList Tryd.prog ops Q (o :: rest) a w := by
  obtain ⟨i0, hi, hz0, hz1, hz2⟩ := info_parts info_u8
  have hby : allByte (l ++ m) := fun y hy => by rcases List.mem_append.1 hy with h | h; exact hown.2 y h; exact hb.byte y h
  cases A with
  | none =>
    obtain rfl := hb.noth rfl
    have hn : n = 0 := by
      rcases Nat.eq_zero_or_pos n with h0 | h0
      · exact h0
      · obtain ⟨_, _, h1, _⟩ := hb.lies h0; cases h1
    subst hn
    have hm : m = [] := List.eq_nil_of_length_eq_zero hb.len
    subst hm
    refine wpList_append_own_none hgd s x _ ho base 5 i0 1 Tryd.underlying27 hi v l.length _ hs hown.1 hx ?_
    exact h v w (by simpa using hown) (World.grownBy.refl w _) (.inl rfl)
  | some ad =>
    refine wpList_append_own_at w hgd s x _ ho base 5 i0 (.int .u8 0) 1 1 Tryd.underlying27 hi hz0 hz1 hz2 rfl (by decide) v l.length _ hs hown.1 ad n c (m.map (Value.int .u8)) hx (by simp [hb.len]) ?_ (ints_one m) (by unfold maxLen; omega) (by omega) hbase ?_
    · intro j u hu
      rw [List.getElem?_map, Option.map_eq_some_iff] at hu
      obtain ⟨y, hy, rfl⟩ := hu
      have hj := (List.getElem?_eq_some_iff.1 hy).1
      have hjn : j < n := by rw [← hb.len]; exact hj
      obtain ⟨b, o', e, _, hc⟩ := hb.lies (by omega)
      obtain rfl := Option.some.inj e
      have h1 := hc j hjn
      have h2 : nth m j = y := by simp [nth, List.getD, hy]
      rw [h2] at h1
      rw [← h1]
      unfold Addr.add; split <;> simp_all
    · intro v' w' h1 h2 _ h4
      refine h v' w' ⟨?_, hby⟩ h2 h4
      rw [List.length_append, hb.len, List.map_append]; exact h1

/-- Bytes in memory of their own. -/
def Gave (l : List Int) (w : World) (e : Ending) (w' : World) : Prop := ∃ v, e = .returned v ∧ Own w' w.heap.size v l ∧ Kept w w'

set_option maxRecDepth 100000 in
theorem own_nil (w : World) (base : Nat) : Own w base (.slice none 0 0) [] := ⟨World.ownsRow_nil w base _ 1, fun _ h => by cases h⟩

set_option maxRecDepth 100000 in
set_option maxHeartbeats 400000 in
theorem copy_any (A : Option Addr) (n c : Nat) (l : List Int) (w : World) (hb : Byt w A n c l) (hn : n ≤ 140737488355328) : Calls Tryd.prog 24 #[.slice A n c] w (Gave l w) := by
  go_enter Tryd.func24, Tryd.ntmps24
  go_wp2_with (at_builtin; refine wpList_app rfl _ _ rfl w.heap.size _ [] rfl (own_nil _ _) A n c l rfl hb (by simpa using hn) (Nat.le_refl _) ?_; intro v' w' h1 h2 h3)
  go_ret
  exact ⟨v', rfl, h1, (Below.refl _ _).grown h2 (Nat.le_refl _) (fun k hk => by cases hk)⟩

set_option maxRecDepth 100000 in
theorem own_made (w : World) : Own (w.alloc (.cells #[] 5)) w.heap.size (.slice (some ⟨w.heap.size, 0, none⟩) 0 0) [] :=
  ⟨World.ownsRow_made w #[] 0 (Nat.le_refl _) (by simp [maxLen]) rfl, fun _ h => by cases h⟩

set_option maxRecDepth 100000 in
set_option maxHeartbeats 400000 in
theorem clone_any (A : Option Addr) (n c : Nat) (l : List Int) (w : World) (hb : Byt w A n c l) (hn : n ≤ 140737488355328) : Calls Tryd.prog 56 #[.slice A n c] w (Gave l w) := by
  have q22 : ∀ (w : World) (a : Option Addr) (n c n' c' : Nat), (binOp .eql 27 (.slice a n c) (.slice none n' c')).run Tryd.prog w = .ok (.bool a.isNone) w := fun w a n c n' c' => Lib.run_eql_slice_nil w _ _ a n c n' c' Tryd.underlying27
  cases A with
  | none =>
    obtain rfl := hb.noth rfl
    have h0 : n = 0 := by have := hb.cap; omega
    subst h0
    have hm : l = [] := List.eq_nil_of_length_eq_zero hb.len
    subst hm
    clear hb
    go_enter Tryd.func56, Tryd.ntmps56
    go_wp2
    go_ret
    exact ⟨_, rfl, own_nil _ _, Kept.refl _⟩
  | some ad =>
    go_enter Tryd.func56, Tryd.ntmps56
    go_wp2_with (at_builtin; refine wpList_app rfl _ _ rfl w.heap.size _ [] rfl (own_made w) (some ad) n c l rfl (hb.kept ((Kept.refl w).alloc _)) (by simpa using hn) (by simp) ?_; intro v' w' h1 h2 h3)
    go_ret
    refine ⟨v', rfl, h1, ?_⟩
    exact ((Below.refl _ w).alloc (Nat.le_refl _) _).grown h2 (by simp) (fun k hk => by have : w.heap.size = k := Option.some.inj hk; omega)

set_option maxRecDepth 100000 in
theorem strOf_inj (l m : List Int) (hl : allByte l) (hm : allByte m) (h : strOfNums l = strOfNums m) : l = m := by
  have h1 : (strOfNums l).data.toList = (strOfNums m).data.toList := by rw [h]
  rw [strOfNums_data, strOfNums_data] at h1
  have key : ∀ (l m : List Int), allByte l → allByte m → (l.map fun n => UInt8.ofNat n.toNat) = (m.map fun n => UInt8.ofNat n.toNat) → l = m := by
    intro l
    induction l with
    | nil => intro m _ _ h; cases m with
      | nil => rfl
      | cons => simp at h
    | cons x l ih =>
      intro m hl hm h
      cases m with
      | nil => simp at h
      | cons y m =>
        simp only [List.map_cons, List.cons.injEq] at h
        have hx := hl x (by simp)
        have hy := hm y (by simp)
        have e : (UInt8.ofNat x.toNat).toNat = (UInt8.ofNat y.toNat).toNat := by rw [h.1]
        simp only [UInt8.toNat_ofNat'] at e
        rw [ih m (fun z hz => hl z (by simp [hz])) (fun z hz => hm z (by simp [hz])) h.2, show x = y by omega]
  exact key l m hl hm h1

set_option maxRecDepth 100000 in
theorem conv_any (A : Option Addr) (n c : Nat) (l : List Int) (w : World) (hb : Byt w A n c l) : (convert 27 9 (.slice A n c)).run Tryd.prog w = .ok (.string (strOfNums l)) w := by
  cases A with
  | none =>
    obtain rfl := hb.noth rfl
    have h0 : n = 0 := by have := hb.cap; omega
    subst h0
    have hm : l = [] := List.eq_nil_of_length_eq_zero hb.len
    subst hm
    exact run_convert_bytes_nil w _ _ Tryd.underlying27 Tryd.underlying5 0 0 _ Tryd.underlying9
  | some ad =>
    rcases Nat.eq_zero_or_pos n with h0 | h0
    · subst h0
      have hm : l = [] := List.eq_nil_of_length_eq_zero hb.len
      subst hm
      rw [run_convert_bytes_string w _ _ _ _ 0 c Tryd.underlying27 Tryd.underlying5 Tryd.underlying9, run_bytesToString w ad 0 c [] (by simp [loadCells, loadCellsFrom])]
      rfl
    · obtain ⟨b, o, e, _, hc⟩ := hb.lies h0
      obtain rfl := Option.some.inj e
      exact run_convert_bytes_arg w _ _ Tryd.underlying27 Tryd.underlying5 b o n c l hb.len hc _ Tryd.underlying9

/-- Are two lists of bytes the same? -/
def same (l m : List Int) : Bool := decide (l = m)
set_option maxRecDepth 100000 in
theorem same_self (l : List Int) : same l l = true := by simp [same]

set_option maxRecDepth 100000 in
theorem str_same (l m : List Int) (hl : allByte l) (hm : allByte m) : ((strOfNums l).toList == (strOfNums m).toList) = same l m := by
  rw [Bool.eq_iff_iff]
  simp only [beq_iff_eq, same, decide_eq_true_eq, ByteArray.toList_eq]
  exact ⟨fun h => strOf_inj l m hl hm (Go.WideShapes.bytes_inj h), fun h => by rw [h]⟩

set_option maxRecDepth 100000 in
set_option maxHeartbeats 400000 in
theorem eq_any (A B : Option Addr) (n c k d : Nat) (l m : List Int) (w : World) (hl : Byt w A n c l) (hm : Byt w B k d m) : Calls Tryd.prog 17 #[.slice A n c, .slice B k d] w fun e w' => e = .returned (.bool (same l m)) ∧ w = w' := by
  have c1 := conv_any A n c l w hl
  have c2 := conv_any B k d m w hm
  have hs := Lib.hid (str_same l m hl.byte hm.byte)
  clear hl hm
  generalize strOfNums l = s at *
  generalize strOfNums m = t at *
  go_enter Tryd.func17, Tryd.ntmps17
  go_wp2
  go_ret
  exact ⟨ret_bool hs.out, rfl⟩

end Go.Proofs.YtganelhlpobdjaaDoor.Oct

/-
  Contracts of octet's PutIn and Put: what each returns of every bytes and numbers; the result lies in memory of its own.
-/
namespace Go.Proofs.YtganelhlpobdjaaDoor.Oct
open Go.RowKit OctM
set_option linter.unusedSimpArgs false
set_option linter.unusedVariables false

def putErr (n s : Int) : Int := if size n = 0 then 9 else if four s ∧ size n ≤ s then 0 else 2
def putOut (l : List Int) (n s : Int) : List Int := if putErr n s = 0 then l ++ enc n s.toNat else []
/-- Bytes in memory of their own, and an error. -/
def Put2 (l : List Int) (err : Int) (w : World) (e : Ending) (w' : World) : Prop := ∃ v, e = .returned (.tuple #[v, .int .i64 err]) ∧ Own w' w.heap.size v l ∧ Kept w w'

set_option maxRecDepth 100000 in
theorem putErr_range (n s : Int) (h : size n = 0) : putErr n s = 9 := by unfold putErr; rw [if_pos h]
set_option maxRecDepth 100000 in
theorem putErr_arg (n s : Int) (h : size n ≠ 0) (h1 : ¬ (four s ∧ size n ≤ s)) : putErr n s = 2 := by unfold putErr; rw [if_neg h, if_neg h1]
set_option maxRecDepth 100000 in
theorem putErr_ok (n s : Int) (h : size n ≠ 0) (h1 : four s ∧ size n ≤ s) : putErr n s = 0 := by unfold putErr; rw [if_neg h, if_pos h1]
set_option maxRecDepth 100000 in
theorem putOut_ok (l : List Int) (n s : Int) (h : putErr n s = 0) : putOut l n s = l ++ enc n s.toNat := by unfold putOut; rw [if_pos h]
set_option maxRecDepth 100000 in
theorem putOut_not (l : List Int) (n s : Int) (h : putErr n s ≠ 0) : putOut l n s = [] := by unfold putOut; rw [if_neg h]

set_option maxRecDepth 100000 in
set_option maxHeartbeats 400000 in
theorem putIn_range (A : Option Addr) (n c : Nat) (x s : Int) (w : World) (hT : Tab w) (h : size x = 0) : Calls Tryd.prog 63 #[.slice A n c, .int .i64 x, .int .i64 s] w (Put2 [] 9 w) := by
  have h0 : (size x == 0) = true := by simp [h]
  go_enter Tryd.func63, Tryd.ntmps63
  go_wp2_with (go_at_call 64; ((with_reducible refine (size_any _ _ hT).mono ?_); rintro e w' ⟨rfl, rfl⟩))
  go_ret2
  exact ⟨_, rfl, own_nil _ _, Kept.refl _⟩

set_option maxRecDepth 100000 in
set_option maxHeartbeats 400000 in
theorem putIn_arg (A : Option Addr) (n c : Nat) (x s : Int) (w : World) (hT : Tab w) (h : size x ≠ 0) (h1 : ¬ (four s ∧ size x ≤ s)) : Calls Tryd.prog 63 #[.slice A n c, .int .i64 x, .int .i64 s] w (Put2 [] 2 w) := by
  have h0 : (size x == 0) = false := by simp [h]
  by_cases h2 : four s
  · have h3 : s < size x := by
      rcases Int.lt_or_le s (size x) with h3 | h3
      · exact h3
      · exact absurd ⟨h2, h3⟩ h1
    have h4 := (place_bd s h2).1
    clear h1 h2 h
    go_enter Tryd.func63, Tryd.ntmps63
    go_wp2_with (first | (go_at_call 64; ((with_reducible refine (size_any _ _ hT).mono ?_); rintro e w' ⟨rfl, rfl⟩)) | (go_at_call 69; ((with_reducible refine (placeOf_any _ _ hT).mono ?_); rintro e w' ⟨rfl, rfl⟩)))
    go_ret2
    exact ⟨_, rfl, own_nil _ _, Kept.refl _⟩
  · have h4 : place s < 0 := by
      unfold four at h2; unfold place; rw [if_neg (by omega), if_neg (by omega), if_neg (by omega), if_neg (by omega)]; decide
    clear h1 h2 h
    go_enter Tryd.func63, Tryd.ntmps63
    go_wp2_with (first | (go_at_call 64; ((with_reducible refine (size_any _ _ hT).mono ?_); rintro e w' ⟨rfl, rfl⟩)) | (go_at_call 69; ((with_reducible refine (placeOf_any _ _ hT).mono ?_); rintro e w' ⟨rfl, rfl⟩)))
    go_ret2
    exact ⟨_, rfl, own_nil _ _, Kept.refl _⟩

/-- So many zero bytes. -/
def zeros (k : Nat) : Array Value := (List.replicate k (Value.int .u8 0)).toArray
set_option maxRecDepth 100000 in
theorem zeros_toList (k : Nat) : (zeros k).toList = List.replicate k (Value.int .u8 0) := rfl

set_option maxRecDepth 100000 in
/-- The two highest bits of a byte. -/
theorem or_mark (t p : Int) (h0 : 0 ≤ t) (h1 : t < 64) (h2 : 0 ≤ p) (h3 : p ≤ 3) : bits .or .u8 t (p * 64) = t + 64 * p := by
  show IntKind.u8.wrap (((BitVec.ofInt 8 t ||| BitVec.ofInt 8 (p * 64)).toNat : Nat) : Int) = _
  have e1 : (BitVec.ofInt 8 t).toNat = t.toNat := by rw [BitVec.toNat_ofInt]; omega
  have e2 : (BitVec.ofInt 8 (p * 64)).toNat = 2 ^ 6 * p.toNat := by rw [BitVec.toNat_ofInt]; omega
  have e3 : 2 ^ 6 * p.toNat + t.toNat = 2 ^ 6 * p.toNat ||| t.toNat := Nat.two_pow_add_eq_or_of_lt (by omega) _
  rw [BitVec.toNat_or, e1, e2, Nat.or_comm, ← e3]
  show ((2 ^ 6 * p.toNat + t.toNat : Nat) : Int) % 256 = _
  omega

set_option maxRecDepth 100000 in
theorem make_eq (n S : Nat) (hn : n ≤ 140737488355328) (hS : S ≤ 8) (W : World) : (Instr.makeSlice 27 (.int .i64 (n : Int)) (.int .i64 ((n : Int) + S))).run Tryd.prog W = .ok (.slice (some ⟨W.heap.size, 0, none⟩) n (n + S)) (W.alloc (.cells (zeros (n + S)) 5)) := by
  obtain ⟨i0, hi, hz0, hz1, hz2⟩ := info_parts info_u8
  have hr := run_make (P := Tryd.prog) W 27 5 i0 (.int .u8 0) Tryd.underlying27 hi hz0 .i64 .i64 (n : Int) ((n : Int) + S) (by omega) (by omega) (by rw [hz2]; omega) (by omega)
  rw [hr]
  have e : ((n : Int) + S).toNat = n + S := by omega
  rw [e, hz1]
  simp only [Int.toNat_natCast, Nat.mul_one]
  congr 3
  unfold zeros
  rw [← toList_madeCells_one]
  rfl

set_option maxRecDepth 100000 in
/-- What a copy to the front of zero bytes leaves is owned. -/
theorem own_copied {w2 : World} {g n S : Nat} {l : List Int} (hl : l.length = n) (hn : n ≤ 140737488355328) (hS : S ≤ 8)
    (h : w2.heap[g]? = some (.cells (splice (zeros (n + S)).toList 0 (l.map (Value.int .u8))).toArray 5 (0, 0))) :
    w2.ownsRow g 5 1 (.slice (some ⟨g, 0, none⟩) n (n + S)) n (l.map (Value.int .u8)) := by
  refine ⟨by simp [hl], .inr ⟨g, n + S, _, rfl, Nat.le_refl _, h, by omega, by unfold maxLen; omega, ?_, ?_⟩⟩
  · simp [splice, zeros, hl]
  · simp [splice, hl]

/-- What holds at the head of each round: j bytes are written. -/
def PutRel (g n S : Nat) (x : Int) (l : List Int) (w : World) (v i : Value) (wr : World) : Prop :=
  ∃ j : Nat, j ≤ S ∧ v = .slice (some ⟨g, 0, none⟩) (n + j) (n + S) ∧ i = .int .i64 (8 * ((S : Int) - 1 - j)) ∧ wr.ownsRow g 5 1 v (n + j) ((l ++ (List.range j).map (dig x S)).map (Value.int .u8)) ∧ Below g w wr

set_option maxRecDepth 100000 in
set_option maxHeartbeats 1000000 in
theorem putIn_ok (A : Option Addr) (n c S : Nat) (x : Int) (l : List Int) (w : World) (hT : Tab w) (hb : Byt w A n c l) (hn : n ≤ 140737488355328) (h : size x ≠ 0) (h2 : four S) (h3 : size x ≤ S) :
    Calls Tryd.prog 63 #[.slice A n c, .int .i64 x, .int .i64 S] w (Put2 (l ++ enc x S) 0 w) := by
  have h0 : (size x == 0) = false := by simp [h]
  obtain ⟨h4, h5⟩ := place_bd S h2
  have hS1 : 1 ≤ S := by unfold four at h2; omega
  have hS8 : S ≤ 8 := by unfold four at h2; omega
  have hmk := make_eq n S hn hS8
  obtain ⟨hx0, hx1, hx2⟩ := size_le x S h2 h h3
  have HX := Lib.hid hx2
  have HL := Lib.hid hb.len
  clear h hx2
  obtain ⟨i0, hi, hz0, hz1, hz2⟩ := info_parts info_u8
  have HI := Lib.hid hi
  have HZ := Lib.hid hz1
  clear hi hz0 hz1 hz2
  have hcopy : ∀ j v, (l.map (Value.int .u8))[j]? = some v → (w.alloc (.cells (zeros (n + S)) 5)).cell? ((A.getD default).add j) = some v := by
    intro j u hu
    rw [List.getElem?_map, Option.map_eq_some_iff] at hu
    obtain ⟨y, hy, rfl⟩ := hu
    have hj := (List.getElem?_eq_some_iff.1 hy).1
    have hjn : j < n := by rw [← hb.len]; exact hj
    obtain ⟨b, o', rfl, _, hc⟩ := (hb.kept ((Kept.refl w).alloc (.cells (zeros (n + S)) 5))).lies (by omega)
    have h1 := hc j hjn
    have h2 : nth l j = y := by simp [nth, List.getD, hy]
    rw [h2] at h1
    rw [← h1]
    simp only [Option.getD_some]
    unfold Addr.add; split <;> simp_all
  have hA : 0 < n → ∃ ad, A = some ad := fun h => by obtain ⟨b, o, h, _⟩ := hb.lies h; exact ⟨_, h⟩
  have HC := Lib.hid hcopy
  have HA := Lib.hid hA
  clear hcopy hA
  go_enter Tryd.func63, Tryd.ntmps63
  go_wp2_with (first | (go_at_call 64; ((with_reducible refine (size_any _ _ hT).mono ?_); rintro e w' ⟨rfl, rfl⟩)) | (go_at_call 69; ((with_reducible refine (placeOf_any _ _ hT).mono ?_); rintro e w' ⟨rfl, rfl⟩)) | (with_reducible refine wpList_copy_splice rfl (.tmp 32) (.tmp 33) 27 27 rfl 5 Tryd.underlying27 (by rw [HI.out]; simp [HZ.out]) (some ⟨w.heap.size, 0, none⟩) A n (n + S) n c rfl rfl w.heap.size 0 (zeros (n + S)).toList 5 ?k1 (l.map (Value.int .u8)) ?k2 ?k3 ?k4 (ints_one l) w.heap.size w ?k5 (Nat.le_refl _) ?_))
  case k1 => rw [Array.toArray_toList]; exact heap_alloc_new w _
  case k2 => simp [HL.out]
  case k3 =>
    intro hpos
    obtain ⟨ad, rfl⟩ := HA.out (by simpa [HL.out] using hpos)
    refine ⟨ad, rfl, ?_⟩
    first | exact HC.out | exact fun j y hy => HC.out j _ (by simp [hy])
  case k4 => simp [HL.out, zeros]
  case k5 => exact (Below.refl _ _).alloc (Nat.le_refl _) _
  intro w2 hg2 hb2
  have hown := own_copied (S := S) HL.out hn hS8 hg2.out
  clear HC HA hg2 hmk
  go_wp2
  go_loopw [10, 11] (PutRel w.heap.size n S x l w) (fun _ i _ => (intOf i + 8).toNat)
  case atStart => exact ⟨0, Nat.zero_le _, rfl, by simp, by simpa using hown, hb2⟩
  case round =>
    obtain ⟨j, hj, rfl, rfl, hown', hbel⟩ := hrel
    by_cases hlt : j < S
    · go_wp2_with (at_builtin; refine wpList_append_fits _ rfl (.tmp 42) (.tmp 47) 27 rfl w.heap.size 5 i0 1 Tryd.underlying27 HI.out HZ.out w.heap.size (n + j) (n + S) _ rfl (hown'.alloc _) ⟨wr.heap.size, 0, none⟩ 1 1 [.int .u8 (x / 2 ^ (8 * (S - 1 - j)) % 256)] rfl rfl (cell_one_new _ _ _) (by simp [Value.oneCell']) (by omega) ?_; intro w3 hown3 hgrow3)
      go_roundw
      case rel =>
        refine ⟨j + 1, hlt, rfl, by congr 1; omega, ?_, ((hbel.alloc (by have := hbel.size; omega) _).grown hgrow3 (by have := hbel.size; simp; omega) (fun k hk => by have : w.heap.size = k := Option.some.inj hk; omega))⟩
        have e : x / 2 ^ (8 * (S - 1 - j)) % 256 = dig x S j := by unfold dig; rw [Int.pow_mul]; rfl
        rw [e] at hown3
        have e2 : ((l ++ (List.range (j + 1)).map (dig x S)).map (Value.int .u8)) = ((l ++ (List.range j).map (dig x S)).map (Value.int .u8)) ++ [.int .u8 (dig x S j)] := by simp [List.range_succ]
        rw [e2]; exact hown3
      case measure => simp [intOf]; omega
    · have hjS : j = S := by omega
      subst hjS
      have hcell := hown'.cellAt n (by omega)
      have hfroz := hown'.frozenAt n
      have hval : ((l ++ (List.range j).map (dig x j)).map (Value.int .u8))[n]? = some (.int .u8 (dig x j 0)) := by
        rw [List.getElem?_map, List.getElem?_append_right (by rw [HL.out]; exact Nat.le_refl _), HL.out, Nat.sub_self, List.getElem?_map, List.getElem?_range (by omega)]; rfl
      rw [hval] at hcell
      clear hval
      go_wp2
      go_ret2
      have ht := top_bd x (j - 1) hx0 (by simpa using HX.out)
      have hd0 : dig x j 0 = x / 256 ^ (j - 1) := by unfold dig; rw [Nat.sub_zero]; omega
      rw [or_mark (dig x j 0) (place j) (by omega) (by omega) h4 h5]
      refine ⟨_, rfl, ⟨?_, ?_⟩, hbel.setCell (Nat.le_refl _) _⟩
      · have hst := hown'.stored n (.int .u8 (dig x j 0 + 64 * place j))
        have e1 : (l ++ enc x j).length = n + j := by rw [List.length_append, enc_length, HL.out]
        have e2 : (l ++ enc x j).map (Value.int .u8) = ((l ++ (List.range j).map (dig x j)).map (Value.int .u8)).set n (.int .u8 (dig x j 0 + 64 * place j)) := by
          rw [← List.map_set, List.set_append_right _ _ (by rw [HL.out]; exact Nat.le_refl _), HL.out, Nat.sub_self]; rfl
        rw [e1, e2]; exact hst.1
      · intro y hy
        rcases List.mem_append.1 hy with hy | hy
        · exact hb.byte y hy
        · exact enc_bytes x j h2 hx0 (by simpa using HX.out) y (by simpa using hy)

set_option maxRecDepth 100000 in
theorem putIn_any (A : Option Addr) (n c : Nat) (x s : Int) (l : List Int) (w : World) (hT : Tab w) (hb : Byt w A n c l) (hn : n ≤ 140737488355328) :
    Calls Tryd.prog 63 #[.slice A n c, .int .i64 x, .int .i64 s] w (Put2 (putOut l x s) (putErr x s) w) := by
  by_cases h : size x = 0
  · rw [putOut_not l x s (by rw [putErr_range x s h]; decide), putErr_range x s h]
    exact putIn_range A n c x s w hT h
  · by_cases h1 : four s ∧ size x ≤ s
    · rw [putOut_ok l x s (putErr_ok x s h h1), putErr_ok x s h h1]
      obtain ⟨S, rfl⟩ := Int.eq_ofNat_of_zero_le (show 0 ≤ s by have := h1.1; unfold four at this; omega)
      exact putIn_ok A n c S x l w hT hb hn h h1.1 h1.2
    · rw [putOut_not l x s (by rw [putErr_arg x s h h1]; decide), putErr_arg x s h h1]
      exact putIn_arg A n c x s w hT h h1

set_option maxRecDepth 100000 in
set_option maxHeartbeats 400000 in
theorem put_any (A : Option Addr) (n c : Nat) (x : Int) (l : List Int) (w : World) (hT : Tab w) (hb : Byt w A n c l) (hn : n ≤ 140737488355328) :
    Calls Tryd.prog 51 #[.slice A n c, .int .i64 x] w (Put2 (putOut l x (size x)) (putErr x (size x)) w) := by
  go_enter Tryd.func51, Tryd.ntmps51
  go_wp2_with (first | (go_at_call 64; ((with_reducible refine (size_any _ _ hT).mono ?_); rintro e w' ⟨rfl, rfl⟩)) | (go_at_call 63; ((with_reducible refine (putIn_any _ _ _ _ _ l _ hT hb hn).mono ?_); rintro e w' ⟨v, rfl, ho, hk⟩)))
  go_ret2
  exact ⟨v, rfl, ho, hk⟩

end Go.Proofs.YtganelhlpobdjaaDoor.Oct

/-
  Readers: what a reader is in memory; contracts of octet's NewReader, Err, Left, End, Num, Take, and of the document's own reader.
-/
namespace Go.Proofs.YtganelhlpobdjaaDoor.Oct
open Go.RowKit OctM
set_option linter.unusedSimpArgs false
set_option linter.unusedVariables false

/-- The address behind a cut at k. -/
def cutA (A : Option Addr) (c k : Nat) : Option Addr := if c = k then A else A.map (·.add k)
set_option maxRecDepth 100000 in
theorem size_u8 (w : World) : (sizeOf 5).run Tryd.prog w = .ok 1 w := by
  obtain ⟨i0, hi, hz0, hz1, hz2⟩ := info_parts info_u8
  simp [sizeOf, typeInfo, hi, hz1]
set_option maxRecDepth 100000 in
theorem run_cut (A : Option Addr) (n c k : Nat) (hk : k ≤ n) (w : World) : (Instr.slice 27 (.slice A n c) (some (.int .i64 (k : Int))) none none).run Tryd.prog w = .ok (.slice (cutA A c k) (n - k) (c - k)) w := by
  rw [run_slice_l (P := Tryd.prog) w 27 A n c Tryd.underlying27 .i64 (k : Int) (by omega) (by omega)]
  show ((sizeOf 5).run Tryd.prog w).andThen _ = _
  rw [size_u8]
  simp [sliced, cutA]
set_option maxRecDepth 100000 in
theorem run_upto (A : Option Addr) (n c k : Nat) (hk : k ≤ c) (w : World) : (Instr.slice 27 (.slice A n c) none (some (.int .i64 (k : Int))) none).run Tryd.prog w = .ok (.slice A k c) w := by
  rw [run_slice_h (P := Tryd.prog) w 27 A n c Tryd.underlying27 .i64 (k : Int) (by omega) (by omega)]
  show ((sizeOf 5).run Tryd.prog w).andThen _ = _
  rw [size_u8]
  simp [sliced]
  cases A <;> simp [Addr.add]

set_option maxRecDepth 100000 in
theorem Byt.cut {w : World} {A : Option Addr} {n c : Nat} {l : List Int} (h : Byt w A n c l) (k : Nat) (hk : k ≤ n) : Byt w (cutA A c k) (n - k) (c - k) (l.drop k) := by
  have hl := h.len
  have hc := h.cap
  have hm := h.most
  refine ⟨by simp [hl], by omega, by omega, fun x hx => h.byte x (List.mem_of_mem_drop hx), fun e => ?_, fun hn => ?_⟩
  · have : A = none := by unfold cutA at e; split at e; exact e; cases A <;> simp_all
    rw [h.noth this]; omega
  · obtain ⟨b, o, rfl, hb, hcell⟩ := h.lies (by omega)
    refine ⟨b, o + k, ?_, hb, fun j hj => ?_⟩
    · unfold cutA; rw [if_neg (by omega)]; simp [Addr.add]
    · have := hcell (k + j) (by omega)
      rw [Nat.add_assoc, this]
      simp [nth, List.getD, List.getElem?_drop]
set_option maxRecDepth 100000 in
theorem Byt.upto {w : World} {A : Option Addr} {n c : Nat} {l : List Int} (h : Byt w A n c l) (k : Nat) (hk : k ≤ n) : Byt w A k c (l.take k) := by
  have hl := h.len
  have hc := h.cap
  refine ⟨by simp; omega, by omega, h.most, fun x hx => h.byte x (List.mem_of_mem_take hx), h.noth, fun hn => ?_⟩
  obtain ⟨b, o, rfl, hb, hcell⟩ := h.lies (by omega)
  refine ⟨b, o, rfl, hb, fun j hj => ?_⟩
  rw [hcell j (by omega)]
  simp [nth, List.getD, List.getElem?_take, hj]
set_option maxRecDepth 100000 in
/-- Bytes stay, if the block in which they lie stays. -/
theorem Byt.far {w w' : World} {A : Option Addr} {n c : Nat} {l : List Int} (h : Byt w A n c l) (hs : 0 < n → ∀ b o, A = some ⟨b, o, none⟩ → w'.heap[b]? = w.heap[b]?) : Byt w' A n c l :=
  ⟨h.len, h.cap, h.most, h.byte, h.noth, fun hn => by
    obtain ⟨b, o, rfl, hb, hc⟩ := h.lies hn
    have e := hs hn b o rfl
    refine ⟨b, o, rfl, ?_, fun j hj => (World.cell?_of_block (a := ⟨b, o + j, none⟩) e).trans (hc j hj)⟩
    rw [Array.getElem?_eq_getElem hb] at e
    exact (Array.getElem?_eq_some_iff.1 e).1⟩

/-- What reading gives, of bytes and an error. -/
def rnum (l : List Int) (e : Int) : Int := if e = 0 then dnum l else 0
def rerr (l : List Int) (e : Int) : Int := if e = 0 then derr l else e
def rrest (l : List Int) (e : Int) : List Int := if e = 0 then l.drop (dlen l).toNat else l
set_option maxRecDepth 100000 in
theorem rnum_ok (l : List Int) : rnum l 0 = dnum l := rfl
set_option maxRecDepth 100000 in
theorem rerr_ok (l : List Int) : rerr l 0 = derr l := rfl
set_option maxRecDepth 100000 in
theorem rrest_ok (l : List Int) : rrest l 0 = l.drop (dlen l).toNat := rfl
set_option maxRecDepth 100000 in
theorem rnum_err (l : List Int) (e : Int) (h : e ≠ 0) : rnum l e = 0 := by unfold rnum; rw [if_neg h]
set_option maxRecDepth 100000 in
theorem rerr_err (l : List Int) (e : Int) (h : e ≠ 0) : rerr l e = e := by unfold rerr; rw [if_neg h]
set_option maxRecDepth 100000 in
theorem rrest_err (l : List Int) (e : Int) (h : e ≠ 0) : rrest l e = l := by unfold rrest; rw [if_neg h]
def rend (l : List Int) (e : Int) : Int := if e = 0 then (if 0 < l.length then 4 else 0) else e
/-- What taking gives. -/
def terr (l : List Int) (e x : Int) : Int := if e = 0 then (if x < 0 then 2 else if (l.length : Int) < x then 3 else 0) else e
def tout (l : List Int) (e x : Int) : List Int := if e = 0 ∧ 0 ≤ x ∧ x ≤ l.length then l.take x.toNat else []
def trest (l : List Int) (e x : Int) : List Int := if e = 0 ∧ 0 ≤ x ∧ x ≤ l.length then l.drop x.toNat else l

set_option maxRecDepth 100000 in
theorem no_byteRd (A : Option Addr) (n c : Nat) (e : Int) (o : Nat) {x : Int} (h : (#[.bool true, .slice A n c, .int .i64 e] : Array Value)[o]? = some (.int .u8 x)) : False := by
  match o, h with
  | 0, h => simp at h
  | 1, h => simp at h
  | 2, h => simp at h
  | k + 3, h => simp at h
/-- A reader in block g, of the bytes l, with the error e; it and its bytes lie from block lo on, below block hi. -/
def Rd (w : World) (lo hi g : Nat) (l : List Int) (e : Int) : Prop :=
  lo ≤ g ∧ g < hi ∧ hi ≤ w.heap.size ∧ l.length ≤ 140737488355328 ∧ ∃ A n c, w.heap[g]? = some (.cells #[.bool true, .slice A n c, .int .i64 e] 81 (0, 0)) ∧ Byt w A n c l ∧ (0 < n → ∃ b o, A = some ⟨b, o, none⟩ ∧ lo ≤ b ∧ b < hi)
set_option maxRecDepth 100000 in
theorem Rd.same {w w' : World} {lo hi g : Nat} {l : List Int} {e : Int} (h : Rd w lo hi g l e) (hs : hi ≤ w'.heap.size) (hb : ∀ k, lo ≤ k → k < hi → w'.heap[k]? = w.heap[k]?) : Rd w' lo hi g l e := by
  obtain ⟨h1, h2, h3, h4, A, n, c, hg, hB, hl⟩ := h
  refine ⟨h1, h2, hs, h4, A, n, c, (hb g h1 h2).trans hg, hB.far fun hn b o hA => ?_, hl⟩
  obtain ⟨b', o', hA', h5, h6⟩ := hl hn
  rw [hA] at hA'
  have : b = b' := by injection hA' with h; injection h
  subst this
  exact hb b h5 h6
set_option maxRecDepth 100000 in
theorem Rd.kept {w w' : World} {lo hi g : Nat} {l : List Int} {e : Int} (h : Rd w lo hi g l e) (k : Kept w w') : Rd w' lo hi g l e :=
  h.same (Nat.le_trans h.2.2.1 k.size) fun b _ hb => k.block b (Nat.lt_of_lt_of_le hb h.2.2.1)
set_option maxRecDepth 100000 in
theorem Rd.cells {w : World} {lo hi g : Nat} {l : List Int} {e : Int} (h : Rd w lo hi g l e) :
    ∃ A n c, w.heap[g]? = some (.cells #[.bool true, .slice A n c, .int .i64 e] 81 (0, 0)) ∧ w.cell? ⟨g, 0, none⟩ = some (.bool true) ∧ w.cell? ⟨g, 1, none⟩ = some (.slice A n c) ∧ w.cell? ⟨g, 2, none⟩ = some (.int .i64 e) ∧ w.frozen? ⟨g, 1, none⟩ = false ∧ w.frozen? ⟨g, 2, none⟩ = false ∧ Byt w A n c l ∧ (0 < n → ∃ b o, A = some ⟨b, o, none⟩ ∧ lo ≤ b ∧ b < hi) := by
  obtain ⟨h1, h2, h3, h4, A, n, c, hg, hB, hl⟩ := h
  exact ⟨A, n, c, hg, cell_of_row w g 0 _ _ _ hg, cell_of_row w g 1 _ _ _ hg, cell_of_row w g 2 _ _ _ hg, by simp [World.frozen?, hg], by simp [World.frozen?, hg], hB, hl⟩
set_option maxRecDepth 100000 in
/-- One of its fields is written. -/
theorem Rd.setErr {w : World} {lo hi g : Nat} {l : List Int} {e : Int} (h : Rd w lo hi g l e) (e' : Int) : Rd (w.setCell ⟨g, 2, none⟩ (.int .i64 e')) lo hi g l e' := by
  obtain ⟨h1, h2, h3, h4, A, n, c, hg, hB, hl⟩ := h
  refine ⟨h1, h2, by simpa [World.setCell] using h3, h4, A, n, c, ?_, hB.far fun hn b o hA => ?_, hl⟩
  · simp [World.setCell, Array.getElem?_modify, hg]
  · refine Below.heap_setCell _ _ _ _ (fun e => ?_)
    have e : b = g := e
    subst e
    obtain ⟨b', o', hA', _, hc⟩ := hB.lies hn
    have e2 : b = b' := by rw [hA] at hA'; injection hA' with h; injection h
    subst e2
    have := hc 0 hn
    rw [cell_of_row w b _ _ _ _ hg] at this
    exact no_byteRd _ _ _ _ _ this
set_option maxRecDepth 100000 in
theorem Rd.setRest {w : World} {lo hi g : Nat} {l l' : List Int} {e : Int} (h : Rd w lo hi g l e) (A' : Option Addr) (n' c' : Nat) (hB' : Byt w A' n' c' l') (hl' : 0 < n' → ∃ b o, A' = some ⟨b, o, none⟩ ∧ lo ≤ b ∧ b < hi) (hlen : l'.length ≤ l.length) : Rd (w.setCell ⟨g, 1, none⟩ (.slice A' n' c')) lo hi g l' e := by
  obtain ⟨h1, h2, h3, h4, A, n, c, hg, hB, hl⟩ := h
  refine ⟨h1, h2, by simpa [World.setCell] using h3, by omega, A', n', c', ?_, hB'.far fun hn b o hA => ?_, hl'⟩
  · simp [World.setCell, Array.getElem?_modify, hg]
  · refine Below.heap_setCell _ _ _ _ (fun e => ?_)
    have e : b = g := e
    subst e
    obtain ⟨b', o', hA', _, hc⟩ := hB'.lies hn
    have e2 : b = b' := by rw [hA] at hA'; injection hA' with h; injection h
    subst e2
    have := hc 0 hn
    rw [cell_of_row w b _ _ _ _ hg] at this
    exact no_byteRd _ _ _ _ _ this
set_option maxRecDepth 100000 in
theorem only_setRd (w : World) (g i : Nat) (v : Value) : w.grownBy (w.setCell ⟨g, i, none⟩ v) (some g) :=
  ⟨rfl, rfl, rfl, by simp [World.setCell], fun k hk hne => Below.heap_setCell _ _ _ _ (fun e => hne (by rw [e]))⟩

set_option maxRecDepth 100000 in
theorem no_byteRr (A : Option Addr) (n c : Nat) (e : Int) (o : Nat) {x : Int} (h : (#[.slice A n c, .int .i64 e] : Array Value)[o]? = some (.int .u8 x)) : False := by
  match o, h with
  | 0, h => simp at h
  | 1, h => simp at h
  | 2, h => simp at h
  | k + 3, h => simp at h
/-- A reader in block g, of the bytes l, with the error e; it and its bytes lie from block lo on, below block hi. -/
def Rr (w : World) (lo hi g : Nat) (l : List Int) (e : Int) : Prop :=
  lo ≤ g ∧ g < hi ∧ hi ≤ w.heap.size ∧ l.length ≤ 140737488355328 ∧ ∃ A n c, w.heap[g]? = some (.cells #[.slice A n c, .int .i64 e] 86 (0, 0)) ∧ Byt w A n c l ∧ (0 < n → ∃ b o, A = some ⟨b, o, none⟩ ∧ lo ≤ b ∧ b < hi)
set_option maxRecDepth 100000 in
theorem Rr.same {w w' : World} {lo hi g : Nat} {l : List Int} {e : Int} (h : Rr w lo hi g l e) (hs : hi ≤ w'.heap.size) (hb : ∀ k, lo ≤ k → k < hi → w'.heap[k]? = w.heap[k]?) : Rr w' lo hi g l e := by
  obtain ⟨h1, h2, h3, h4, A, n, c, hg, hB, hl⟩ := h
  refine ⟨h1, h2, hs, h4, A, n, c, (hb g h1 h2).trans hg, hB.far fun hn b o hA => ?_, hl⟩
  obtain ⟨b', o', hA', h5, h6⟩ := hl hn
  rw [hA] at hA'
  have : b = b' := by injection hA' with h; injection h
  subst this
  exact hb b h5 h6
set_option maxRecDepth 100000 in
theorem Rr.kept {w w' : World} {lo hi g : Nat} {l : List Int} {e : Int} (h : Rr w lo hi g l e) (k : Kept w w') : Rr w' lo hi g l e :=
  h.same (Nat.le_trans h.2.2.1 k.size) fun b _ hb => k.block b (Nat.lt_of_lt_of_le hb h.2.2.1)
set_option maxRecDepth 100000 in
theorem Rr.cells {w : World} {lo hi g : Nat} {l : List Int} {e : Int} (h : Rr w lo hi g l e) :
    ∃ A n c, w.heap[g]? = some (.cells #[.slice A n c, .int .i64 e] 86 (0, 0)) ∧ w.cell? ⟨g, 0, none⟩ = some (.slice A n c) ∧ w.cell? ⟨g, 1, none⟩ = some (.int .i64 e) ∧ w.frozen? ⟨g, 0, none⟩ = false ∧ w.frozen? ⟨g, 1, none⟩ = false ∧ Byt w A n c l ∧ (0 < n → ∃ b o, A = some ⟨b, o, none⟩ ∧ lo ≤ b ∧ b < hi) := by
  obtain ⟨h1, h2, h3, h4, A, n, c, hg, hB, hl⟩ := h
  exact ⟨A, n, c, hg, cell_of_row w g 0 _ _ _ hg, cell_of_row w g 1 _ _ _ hg, by simp [World.frozen?, hg], by simp [World.frozen?, hg], hB, hl⟩
set_option maxRecDepth 100000 in
/-- One of its fields is written. -/
theorem Rr.setErr {w : World} {lo hi g : Nat} {l : List Int} {e : Int} (h : Rr w lo hi g l e) (e' : Int) : Rr (w.setCell ⟨g, 1, none⟩ (.int .i64 e')) lo hi g l e' := by
  obtain ⟨h1, h2, h3, h4, A, n, c, hg, hB, hl⟩ := h
  refine ⟨h1, h2, by simpa [World.setCell] using h3, h4, A, n, c, ?_, hB.far fun hn b o hA => ?_, hl⟩
  · simp [World.setCell, Array.getElem?_modify, hg]
  · refine Below.heap_setCell _ _ _ _ (fun e => ?_)
    have e : b = g := e
    subst e
    obtain ⟨b', o', hA', _, hc⟩ := hB.lies hn
    have e2 : b = b' := by rw [hA] at hA'; injection hA' with h; injection h
    subst e2
    have := hc 0 hn
    rw [cell_of_row w b _ _ _ _ hg] at this
    exact no_byteRr _ _ _ _ _ this
set_option maxRecDepth 100000 in
theorem Rr.setRest {w : World} {lo hi g : Nat} {l l' : List Int} {e : Int} (h : Rr w lo hi g l e) (A' : Option Addr) (n' c' : Nat) (hB' : Byt w A' n' c' l') (hl' : 0 < n' → ∃ b o, A' = some ⟨b, o, none⟩ ∧ lo ≤ b ∧ b < hi) (hlen : l'.length ≤ l.length) : Rr (w.setCell ⟨g, 0, none⟩ (.slice A' n' c')) lo hi g l' e := by
  obtain ⟨h1, h2, h3, h4, A, n, c, hg, hB, hl⟩ := h
  refine ⟨h1, h2, by simpa [World.setCell] using h3, by omega, A', n', c', ?_, hB'.far fun hn b o hA => ?_, hl'⟩
  · simp [World.setCell, Array.getElem?_modify, hg]
  · refine Below.heap_setCell _ _ _ _ (fun e => ?_)
    have e : b = g := e
    subst e
    obtain ⟨b', o', hA', _, hc⟩ := hB'.lies hn
    have e2 : b = b' := by rw [hA] at hA'; injection hA' with h; injection h
    subst e2
    have := hc 0 hn
    rw [cell_of_row w b _ _ _ _ hg] at this
    exact no_byteRr _ _ _ _ _ this
set_option maxRecDepth 100000 in
theorem only_setRr (w : World) (g i : Nat) (v : Value) : w.grownBy (w.setCell ⟨g, i, none⟩ v) (some g) :=
  ⟨rfl, rfl, rfl, by simp [World.setCell], fun k hk hne => Below.heap_setCell _ _ _ _ (fun e => hne (by rw [e]))⟩


end Go.Proofs.YtganelhlpobdjaaDoor.Oct

/-
  Contracts of octet's readers: NewReader, Err, Left, End, Num and Take, of every reader that was made; of one that is none, or zero.
-/
namespace Go.Proofs.YtganelhlpobdjaaDoor.Oct
open Go.RowKit OctM
set_option linter.unusedSimpArgs false
set_option linter.unusedVariables false

/-- A new reader. -/
def NewRd (l : List Int) (w : World) (e : Ending) (w' : World) : Prop := ∃ g, e = .returned (.pointer (some ⟨g, 0, none⟩)) ∧ Rd w' w.heap.size w'.heap.size g l 0 ∧ Kept w w'

set_option maxRecDepth 100000 in
theorem rd_made {w w1 : World} {v : Value} {l : List Int} (hk : Kept w w1) (ho : Own w1 w.heap.size v l) (hn : l.length ≤ 140737488355328) :
    ∀ A n c, v = .slice A n c → Rd (w1.alloc (.cells #[.bool true, .slice A n c, .int .i64 0] 81)) w.heap.size (w1.alloc (.cells #[.bool true, .slice A n c, .int .i64 0] 81)).heap.size w1.heap.size l 0 := by
  rintro A n c rfl
  obtain ⟨A', c', e, hB, hf⟩ := ho.byt
  injection e with e1 e2 e3
  subst e1; subst e2; subst e3
  refine ⟨hk.size, by simp, Nat.le_refl _, hn, A, _, c, heap_alloc_new w1 _, hB.kept ((Kept.refl w1).alloc _), fun h => ?_⟩
  obtain ⟨g, h1, h2, h3⟩ := hf h
  exact ⟨g, 0, h1, h2, by simp; omega⟩

set_option maxRecDepth 100000 in
set_option maxHeartbeats 400000 in
theorem newReader_any (A : Option Addr) (n c : Nat) (l : List Int) (w : World) (hb : Byt w A n c l) (hn : n ≤ 140737488355328) : Calls Tryd.prog 43 #[.slice A n c] w (NewRd l w) := by
  have HL := Lib.hid (show l.length ≤ 140737488355328 by rw [hb.len]; exact hn)
  go_enter Tryd.func43, Tryd.ntmps43
  go_wp2_with (go_at_call 56; ((with_reducible refine (clone_any _ _ _ l _ hb hn).mono ?_); rintro e w1 ⟨v, rfl, ho, hk⟩; obtain ⟨A', c', rfl, hB', hf'⟩ := ho.byt))
  go_ret
  exact ⟨_, rfl, rd_made hk ho HL.out _ _ _ rfl, hk.alloc _⟩

set_option maxRecDepth 100000 in
set_option maxHeartbeats 400000 in
theorem err_any (g : Nat) (l : List Int) (e : Int) (lo hi : Nat) (w : World) (h : Rd w lo hi g l e) : Calls Tryd.prog 58 #[.pointer (some ⟨g, 0, none⟩)] w fun e' w' => e' = .returned (.int .i64 e) ∧ w = w' := by
  obtain ⟨A, n, c, _, c0, c1, c2, f1, f2, hB, hl⟩ := h.cells
  clear hB hl h
  go_enter Tryd.func58, Tryd.ntmps58
  go_wp2
  go_ret
  exact ⟨rfl, rfl⟩

set_option maxRecDepth 100000 in
set_option maxHeartbeats 400000 in
theorem err_none (w : World) : Calls Tryd.prog 58 #[.pointer none] w fun e' w' => e' = .returned (.int .i64 1) ∧ w = w' := by
  go_enter Tryd.func58, Tryd.ntmps58
  go_wp2
  go_ret
  exact ⟨rfl, rfl⟩

set_option maxRecDepth 100000 in
set_option maxHeartbeats 400000 in
theorem left_any (g : Nat) (l : List Int) (e : Int) (lo hi : Nat) (w : World) (h : Rd w lo hi g l e) : Calls Tryd.prog 45 #[.pointer (some ⟨g, 0, none⟩)] w fun e' w' => e' = .returned (.int .i64 l.length) ∧ w = w' := by
  obtain ⟨A, n, c, _, c0, c1, c2, f1, f2, hB, hl⟩ := h.cells
  have HL := Lib.hid hB.len
  clear hB hl h
  go_enter Tryd.func45, Tryd.ntmps45
  go_wp2
  go_ret
  exact ⟨ret_int (by rw [HL.out]), rfl⟩

set_option maxRecDepth 100000 in
set_option maxHeartbeats 400000 in
theorem left_none (w : World) : Calls Tryd.prog 45 #[.pointer none] w fun e' w' => e' = .returned (.int .i64 0) ∧ w = w' := by
  go_enter Tryd.func45, Tryd.ntmps45
  go_wp2
  go_ret
  exact ⟨rfl, rfl⟩

/-- A number is read. -/
def Read (l : List Int) (e : Int) (lo hi g : Nat) (w : World) (e' : Ending) (w' : World) : Prop := e' = .returned (.int .i64 (rnum l e)) ∧ Rd w' lo hi g (rrest l e) (rerr l e) ∧ w.grownBy w' (some g)

set_option maxRecDepth 100000 in
theorem cutA_lies {A : Option Addr} {n c k lo hi : Nat} (h : 0 < n → ∃ b o, A = some ⟨b, o, none⟩ ∧ lo ≤ b ∧ b < hi) (hk : k ≤ n) (hc : n ≤ c) : 0 < n - k → ∃ b o, cutA A c k = some ⟨b, o, none⟩ ∧ lo ≤ b ∧ b < hi := by
  intro hn
  obtain ⟨b, o, rfl, h1, h2⟩ := h (by omega)
  refine ⟨b, o + k, ?_, h1, h2⟩
  unfold cutA; rw [if_neg (by omega)]; simp [Addr.add]

set_option maxRecDepth 100000 in
set_option maxHeartbeats 400000 in
theorem num_any (g : Nat) (l : List Int) (e : Int) (lo hi : Nat) (w : World) (hT : Tab w) (h : Rd w lo hi g l e) : Calls Tryd.prog 57 #[.pointer (some ⟨g, 0, none⟩)] w (Read l e lo hi g w) := by
  by_cases he : e = 0
  · subst he
    obtain ⟨A, n, c, _, c0, c1, c2, f1, f2, hB, hl⟩ := h.cells
    have hd := dlen_bd l
    have hlen := hB.len
    obtain ⟨k, hk⟩ := Int.eq_ofNat_of_zero_le hd.1
    have hkn : k ≤ n := by omega
    have hcut := run_cut A n c k hkn
    have hDB := Lib.hid (hB.cut k hkn)
    have HK := Lib.hid hk
    have HL := Lib.hid hlen
    have HA := Lib.hid hl
    have HD : ∀ w', Told l w' = Told l w' := fun _ => rfl
    have hdec := decode_any A n c l w hT hB
    unfold Told at hdec
    rw [hk] at hdec
    have HDec := Lib.hid hdec
    clear hk hlen hl hd hdec HD
    go_enter Tryd.func57, Tryd.ntmps57
    go_wp2_with (first | (go_at_call 58; ((with_reducible refine (err_any g l _ lo hi _ h).mono ?_); rintro e w' ⟨rfl, rfl⟩)) | (go_at_call 66; ((with_reducible refine HDec.out.mono ?_); rintro e w' ⟨rfl, rfl⟩)))
    go_ret
    refine ⟨rfl, ?_, (only_setRd _ g 1 _).trans (only_setRd _ g 2 _)⟩
    rw [rrest_ok, HK.out]
    exact (h.setRest _ _ _ hDB.out (cutA_lies HA.out hkn hB.cap) (by simp)).setErr _
  · have hb : (e == 0) = false := by simp [he]
    have hb' : (e != 0) = true := by simp [he]
    have HE := Lib.hid he
    clear he
    go_enter Tryd.func57, Tryd.ntmps57
    go_wp2_with (first | (go_at_call 58; ((with_reducible refine (err_any g l _ lo hi _ h).mono ?_); rintro e w' ⟨rfl, rfl⟩)))
    go_ret
    refine ⟨ret_int (rnum_err l e HE.out).symm, ?_, World.grownBy.refl _ _⟩
    rw [rrest_err l e HE.out, rerr_err l e HE.out]; exact h

/-- Bytes are taken. -/
def Took (l : List Int) (e x : Int) (lo hi g : Nat) (w : World) (e' : Ending) (w' : World) : Prop := ∃ v, e' = .returned v ∧ Own w' w.heap.size v (tout l e x) ∧ Rd w' lo hi g (trest l e x) (terr l e x) ∧ w.grownBy w' (some g)

set_option maxRecDepth 100000 in
theorem take_err (l : List Int) (e x : Int) (h : e ≠ 0) : tout l e x = [] ∧ trest l e x = l ∧ terr l e x = e := by
  refine ⟨?_, ?_, ?_⟩
  · unfold tout; rw [if_neg (fun h' => h h'.1)]
  · unfold trest; rw [if_neg (fun h' => h h'.1)]
  · unfold terr; rw [if_neg h]
set_option maxRecDepth 100000 in
theorem take_neg (l : List Int) (x : Int) (h : x < 0) : tout l 0 x = [] ∧ trest l 0 x = l ∧ terr l 0 x = 2 := by
  refine ⟨?_, ?_, ?_⟩
  · unfold tout; rw [if_neg (by omega)]
  · unfold trest; rw [if_neg (by omega)]
  · unfold terr; rw [if_pos rfl, if_pos h]
set_option maxRecDepth 100000 in
theorem take_many (l : List Int) (x : Int) (h : (l.length : Int) < x) : tout l 0 x = [] ∧ trest l 0 x = l ∧ terr l 0 x = 3 := by
  refine ⟨?_, ?_, ?_⟩
  · unfold tout; rw [if_neg (by omega)]
  · unfold trest; rw [if_neg (by omega)]
  · unfold terr; rw [if_pos rfl, if_neg (by omega), if_pos h]
set_option maxRecDepth 100000 in
theorem take_well (l : List Int) (k : Nat) (h : k ≤ l.length) : tout l 0 k = l.take k ∧ trest l 0 k = l.drop k ∧ terr l 0 k = 0 := by
  refine ⟨?_, ?_, ?_⟩
  · unfold tout; rw [if_pos (by omega)]; rfl
  · unfold trest; rw [if_pos (by omega)]; rfl
  · unfold terr; rw [if_pos rfl, if_neg (by omega), if_neg (by omega)]

set_option maxRecDepth 100000 in
theorem grown_of_kept {a b : World} (h : Kept a b) (row : Option Nat) : a.grownBy b row := ⟨h.os, h.tape, h.output, h.size, fun k hk _ => h.block k hk⟩

end Go.Proofs.YtganelhlpobdjaaDoor.Oct

/-
  Contract of octet's Strict: what it returns of every bytes; the world stays as it was.
-/
namespace Go.Proofs.YtganelhlpobdjaaDoor.Oct
open Go.RowKit OctM
set_option linter.unusedSimpArgs false
set_option linter.unusedVariables false

/-- Is the front a number in as few bytes as may be? -/
def front (l : List Int) : Bool := decide (derr l = 0) && decide (dlen l = size (dnum l))
def strictF : Nat → List Int → Bool
  | 0, l => l.isEmpty
  | k + 1, l => l.isEmpty || (front l && strictF k (l.drop (dlen l).toNat))
def strict (l : List Int) : Bool := strictF l.length l

set_option maxRecDepth 100000 in
theorem strictF_nil (k : Nat) : strictF k [] = true := by cases k <;> rfl
set_option maxRecDepth 100000 in
theorem strict_nil : strict [] = true := rfl
set_option maxRecDepth 100000 in
theorem strictF_more : ∀ (k m : Nat) (l : List Int), l.length ≤ k → l.length ≤ m → strictF k l = strictF m l := by
  intro k
  induction k with
  | zero => intro m l hk _; have : l = [] := List.eq_nil_of_length_eq_zero (by omega); subst this; rw [strictF_nil, strictF_nil]
  | succ k ih =>
    intro m l hk hm
    cases m with
    | zero => have : l = [] := List.eq_nil_of_length_eq_zero (by omega); subst this; rw [strictF_nil, strictF_nil]
    | succ m =>
      unfold strictF
      cases hl : l.isEmpty
      · simp only [Bool.false_or]
        cases hf : front l
        · rfl
        · have he : derr l = 0 := by unfold front at hf; simp at hf; exact hf.1
          have hp := dlen_pos l he
          simp only [Bool.true_and]
          exact ih m _ (by rw [List.length_drop]; omega) (by rw [List.length_drop]; omega)
      · rfl
set_option maxRecDepth 100000 in
theorem strict_step (l : List Int) (h : 0 < l.length) (hf : front l = true) : strict l = strict (l.drop (dlen l).toNat) := by
  have he : derr l = 0 := by unfold front at hf; simp at hf; exact hf.1
  have hp := dlen_pos l he
  obtain ⟨k, hk⟩ : ∃ k, l.length = k + 1 := ⟨l.length - 1, by omega⟩
  have hl : l.isEmpty = false := by cases l <;> simp_all
  show strictF l.length l = _
  rw [hk]
  unfold strictF
  rw [hl, hf]
  simp only [Bool.false_or, Bool.true_and]
  exact strictF_more _ _ _ (by rw [List.length_drop]; omega) (Nat.le_refl _)
set_option maxRecDepth 100000 in
theorem strict_not (l : List Int) (h : 0 < l.length) (hf : front l = false) : strict l = false := by
  obtain ⟨k, hk⟩ : ∃ k, l.length = k + 1 := ⟨l.length - 1, by omega⟩
  have hl : l.isEmpty = false := by cases l <;> simp_all
  show strictF l.length l = _
  rw [hk]
  unfold strictF
  rw [hl, hf]; rfl
set_option maxRecDepth 100000 in
theorem front_err (l : List Int) (h : derr l ≠ 0) : front l = false := by simp [front, h]
set_option maxRecDepth 100000 in
theorem front_len (l : List Int) (h : dlen l ≠ size (dnum l)) : front l = false := by simp [front, h]
set_option maxRecDepth 100000 in
theorem front_ok (l : List Int) (h : derr l = 0) (h1 : dlen l = size (dnum l)) : front l = true := by simp [front, h, h1]

def lenV : Value → Nat | .slice _ n _ => n | _ => 0
def StrictRel (l : List Int) (w : World) (v : Value) : Prop := ∃ A n c l', v = .slice A n c ∧ Byt w A n c l' ∧ strict l' = strict l

end Go.Proofs.YtganelhlpobdjaaDoor.Oct

/-
  Contracts of the document's own reader: NewReader, Left, End, Num, Take, and of its Strict.
-/
namespace Go.Proofs.YtganelhlpobdjaaDoor.Oct
open Go.RowKit OctM
set_option linter.unusedSimpArgs false
set_option linter.unusedVariables false

/-- A new reader of the document's own. -/
def NewRr (l : List Int) (w : World) (e : Ending) (w' : World) : Prop := ∃ g, e = .returned (.pointer (some ⟨g, 0, none⟩)) ∧ Rr w' w.heap.size w'.heap.size g l 0 ∧ Kept w w'

set_option maxRecDepth 100000 in
theorem rr_made {w w1 : World} {v : Value} {l : List Int} (hk : Kept w w1) (ho : Own w1 w.heap.size v l) (hn : l.length ≤ 140737488355328) :
    ∀ A n c, v = .slice A n c → Rr (w1.alloc (.cells #[.slice A n c, .int .i64 0] 86)) w.heap.size (w1.alloc (.cells #[.slice A n c, .int .i64 0] 86)).heap.size w1.heap.size l 0 := by
  rintro A n c rfl
  obtain ⟨A', c', e, hB, hf⟩ := ho.byt
  injection e with e1 e2 e3
  subst e1; subst e2; subst e3
  refine ⟨hk.size, by simp, Nat.le_refl _, hn, A, _, c, heap_alloc_new w1 _, hB.kept ((Kept.refl w1).alloc _), fun h => ?_⟩
  obtain ⟨g, h1, h2, h3⟩ := hf h
  exact ⟨g, 0, h1, h2, by simp; omega⟩

set_option maxRecDepth 100000 in
set_option maxHeartbeats 400000 in
theorem rnew_any (A : Option Addr) (n c : Nat) (l : List Int) (w : World) (hb : Byt w A n c l) (hn : n ≤ 140737488355328) : Calls Tryd.prog 46 #[.slice A n c] w (NewRr l w) := by
  have HL := Lib.hid (show l.length ≤ 140737488355328 by rw [hb.len]; exact hn)
  go_enter Tryd.func46, Tryd.ntmps46
  go_wp2_with (go_at_call 24; ((with_reducible refine (copy_any _ _ _ l _ hb hn).mono ?_); rintro e w1 ⟨v, rfl, ho, hk⟩; obtain ⟨A', c', rfl, hB', hf'⟩ := ho.byt))
  go_ret
  exact ⟨_, rfl, rr_made hk ho HL.out _ _ _ rfl, hk.alloc _⟩

set_option maxRecDepth 100000 in
set_option maxHeartbeats 400000 in
theorem rleft_any (g : Nat) (l : List Int) (e : Int) (lo hi : Nat) (w : World) (h : Rr w lo hi g l e) : Calls Tryd.prog 49 #[.pointer (some ⟨g, 0, none⟩)] w fun e' w' => e' = .returned (.int .i64 l.length) ∧ w = w' := by
  obtain ⟨A, n, c, _, c1, c2, f1, f2, hB, hl⟩ := h.cells
  have HL := Lib.hid hB.len
  clear hB hl h
  go_enter Tryd.func49, Tryd.ntmps49
  go_wp2
  go_ret
  exact ⟨ret_int (by rw [HL.out]), rfl⟩

def ReadR (l : List Int) (e : Int) (lo hi g : Nat) (w : World) (e' : Ending) (w' : World) : Prop := e' = .returned (.int .i64 (rnum l e)) ∧ Rr w' lo hi g (rrest l e) (rerr l e) ∧ w.grownBy w' (some g)
def NumRel (l : List Int) (n i : Value) : Prop := ∃ k : Nat, 1 ≤ k ∧ (k : Int) ≤ lenOf (hd l) ∧ i = .int .i64 k ∧ n = .int .i64 (acc l k)

set_option maxRecDepth 100000 in
theorem pow_len (x : Int) (h0 : 0 ≤ x) (h1 : x < 256) : (2 : Int) ^ (x / 64).toNat = lenOf x := by
  have h : (x / 64).toNat = 0 ∨ (x / 64).toNat = 1 ∨ (x / 64).toNat = 2 ∨ (x / 64).toNat = 3 := by omega
  rcases h with h | h | h | h <;> rw [h] <;> simp [lenOf] <;> omega

set_option maxRecDepth 100000 in
set_option maxHeartbeats 400000 in
theorem rnum_any (g : Nat) (l : List Int) (e : Int) (lo hi : Nat) (w : World) (h : Rr w lo hi g l e) : Calls Tryd.prog 60 #[.pointer (some ⟨g, 0, none⟩)] w (ReadR l e lo hi g w) := by
  by_cases he : e = 0
  · subst he
    obtain ⟨A, n, c, _, c1, c2, f1, f2, hB, hl⟩ := h.cells
    have HL := Lib.hid hB.len
    have HA := Lib.hid hl
    have hm := hB.most
    have hcap := hB.cap
    unfold maxLen at hm
    clear hl
    rcases Nat.eq_zero_or_pos n with h0 | h0
    · subst h0
      have HT := Lib.hid (derr_trunc l (.inl HL.out))
      go_enter Tryd.func60, Tryd.ntmps60
      go_wp2
      go_ret
      obtain ⟨t1, t2, t3⟩ := HT.out
      refine ⟨ret_int (by rw [rnum_ok, t2]), ?_, only_setRr _ g 1 _⟩
      rw [rrest_ok, rerr_ok, t1, t3]; exact h.setErr _
    · obtain ⟨b, o, rfl, hbl, hc⟩ := hB.lies h0
      have hc0 : w.cell? ⟨b, o, none⟩ = some (.int .u8 (hd l)) := by have := hc 0 h0; rw [Nat.add_zero, nth_zero] at this; exact this
      obtain ⟨hx0, hx1⟩ : 0 ≤ hd l ∧ hd l < 256 := by have := getD_byte hB.byte 0; rwa [nth_zero] at this
      obtain ⟨hs0, hs1⟩ := lenOf_bd (hd l)
      have HC := Lib.hid hc
      have hp : wrap64 (2 ^ (hd l / 64).toNat) = lenOf (hd l) := by rw [pow_len _ hx0 hx1, IntWalk.wrap64_in _ ⟨by omega, by omega⟩]
      have HB := Lib.hid hB.byte
      have HR := Lib.hid (acc_raw l)
      have H1 := Lib.hid (acc_one l)
      clear hc
      by_cases hlt : (n : Int) < lenOf (hd l)
      · have HT := Lib.hid (derr_trunc l (.inr (by rw [HL.out]; exact hlt)))
        go_enter Tryd.func60, Tryd.ntmps60
        go_wp2
        go_ret
        obtain ⟨t1, t2, t3⟩ := HT.out
        refine ⟨ret_int (by rw [rnum_ok, t2]), ?_, only_setRr _ g 1 _⟩
        rw [rrest_ok, rerr_ok, t1, t3]; exact h.setErr _
      · have HG := Lib.hid (fun h2 => derr_great l (by rw [HL.out]; omega) (by rw [HL.out]; omega) h2)
        have HW := Lib.hid (fun h2 => derr_well l (by rw [HL.out]; omega) (by rw [HL.out]; omega) h2)
        go_enter Tryd.func60, Tryd.ntmps60
        go_wp2
        go_loop [4, 5] (NumRel l) (fun _ i => 8 - (intOf i).toNat)
        case atStart => exact ⟨1, Nat.le_refl _, by omega, rfl, by rw [H1.out]⟩
        case round =>
          obtain ⟨k, hk1, hk2, rfl, rfl⟩ := hrel
          have hk8 : k ≤ 8 := by omega
          obtain ⟨ha0, ha1⟩ := acc_large l HB.out k hk1 (by rw [HL.out]; omega) hk8
          by_cases h1 : (k : Int) < lenOf (hd l)
          · have hc1 := HC.out k (by omega)
            have hg1 := getD_byte HB.out k
            obtain ⟨hb0, hb1⟩ := acc_small l HB.out k hk1 (by rw [HL.out]; omega) (by omega)
            have H2 := Lib.hid (show 256 * acc l k + nth l k = acc l (k + 1) by rw [acc_step l k hk1 (by rw [HL.out]; omega)])
            go_wp2
            go_round
            case rel => exact ⟨k + 1, by omega, by omega, by go_num, by rw [← H2.out]⟩
            case measure => simp [intOf]; omega
          · have HX := Lib.hid (show acc l k = raw l by rw [← HR.out]; congr 1; omega)
            have HKL := Lib.hid (show lenOf (hd l) = k by omega)
            have hkn : k ≤ n := by omega
            have hcut := run_cut (some ⟨b, o, none⟩) n c k hkn
            have hlk : lenOf (hd l) = k := by omega
            have hDB := Lib.hid (hB.cut k hkn)
            go_wp2
            · go_ret
              obtain ⟨t1, t2, t3⟩ := HG.out (by rw [← HX.out]; assumption)
              refine ⟨ret_int (by rw [rnum_ok, t2]), ?_, only_setRr _ g 1 _⟩
              rw [rrest_ok, rerr_ok, t1, t3]; exact h.setErr _
            · go_ret
              obtain ⟨t1, t2, t3⟩ := HW.out (by rw [← HX.out]; assumption)
              refine ⟨ret_int (by rw [rnum_ok, t2]; exact HX.out), ?_, only_setRr _ g 0 _⟩
              rw [rrest_ok, rerr_ok, t1, t3, HKL.out]; exact h.setRest _ _ _ hDB.out (cutA_lies HA.out hkn hcap) (by simp)
  · have hb : (e == 0) = false := by simp [he]
    have hb' : (e != 0) = true := by simp [he]
    have HE := Lib.hid he
    obtain ⟨A, n, c, _, c1, c2, f1, f2, hB, hl⟩ := h.cells
    clear he hB hl
    go_enter Tryd.func60, Tryd.ntmps60
    go_wp2
    go_ret
    refine ⟨ret_int (rnum_err l e HE.out).symm, ?_, World.grownBy.refl _ _⟩
    rw [rrest_err l e HE.out, rerr_err l e HE.out]; exact h

def TookR (l : List Int) (e x : Int) (lo hi g : Nat) (w : World) (e' : Ending) (w' : World) : Prop := ∃ v, e' = .returned v ∧ Own w' w.heap.size v (tout l e x) ∧ Rr w' lo hi g (trest l e x) (terr l e x) ∧ w.grownBy w' (some g)

end Go.Proofs.YtganelhlpobdjaaDoor.Oct

/-
  Contracts of the document's own PutIn and Put.
-/
namespace Go.Proofs.YtganelhlpobdjaaDoor.Oct
open Go.RowKit OctM
set_option linter.unusedSimpArgs false
set_option linter.unusedVariables false

set_option maxRecDepth 100000 in
theorem quiet_same {P : Program} {f : FuncId} {args : Array Value} {w : World} {n : Nat} {v : Value}
    (h : Calls P f args (w.drewN n) fun e w' => e = .returned v ∧ w.drewN n = w') : Calls P f args (w.drewN n) fun e w'' => e = .returned v ∧ ∃ m, w'' = w.drewN m :=
  Calls.quiet_of_same (h.mono fun _ _ ⟨a, b⟩ => ⟨a, b.symm⟩)

set_option maxRecDepth 100000 in
set_option maxHeartbeats 400000 in
theorem rputIn_range (A : Option Addr) (n c : Nat) (x s : Int) (w : World) (h : size x = 0) : Calls Tryd.prog 53 #[.slice A n c, .int .i64 x, .int .i64 s] w (Put2 [] 9 w) := by
  have h0 : (size x == 0) = true := by simp [h]
  go_enter Tryd.func53, Tryd.ntmps53
  go_wp2_with (go_at_call 54; ((with_reducible refine (rsize_any _ _).mono ?_); rintro e w' ⟨rfl, rfl⟩))
  go_ret2
  exact ⟨_, rfl, own_nil _ _, Kept.refl _⟩

set_option maxRecDepth 100000 in
set_option maxHeartbeats 400000 in
theorem rputIn_arg (A : Option Addr) (n c : Nat) (x s : Int) (w : World) (h : size x ≠ 0) (h1 : ¬ (four s ∧ size x ≤ s)) : Calls Tryd.prog 53 #[.slice A n c, .int .i64 x, .int .i64 s] w (Put2 [] 2 w) := by
  have h0 : (size x == 0) = false := by simp [h]
  by_cases h2 : four s
  · have h3 : s < size x := by
      rcases Int.lt_or_le s (size x) with h3 | h3
      · exact h3
      · exact absurd ⟨h2, h3⟩ h1
    clear h1 h
    rcases h2 with rfl | rfl | rfl | rfl
    all_goals
      go_enter Tryd.func53, Tryd.ntmps53
      go_wp2_with (go_at_call 54; ((with_reducible refine (rsize_any _ _).mono ?_); rintro e w' ⟨rfl, rfl⟩))
      go_ret2
      exact ⟨_, rfl, own_nil _ _, Kept.refl _⟩
  · unfold four at h2
    have n1 : (s != 1) = true := by simp; omega
    have n2 : (s != 2) = true := by simp; omega
    have n4 : (s != 4) = true := by simp; omega
    have n8 : (s != 8) = true := by simp; omega
    clear h1 h2 h
    go_enter Tryd.func53, Tryd.ntmps53
    go_wp2_with (go_at_call 54; ((with_reducible refine (rsize_any _ _).mono ?_); rintro e w' ⟨rfl, rfl⟩))
    go_ret2
    exact ⟨_, rfl, own_nil _ _, Kept.refl _⟩

set_option maxRecDepth 100000 in
theorem rmake1 (W : World) : (Instr.makeSlice 27 (.int .i64 1) (.int .i64 1)).run Tryd.prog W = .ok (.slice (some ⟨W.heap.size, 0, none⟩) 1 1) (W.alloc (.cells #[.int .u8 0] 5)) := by kernel_rfl
set_option maxRecDepth 100000 in
theorem rmake2 (W : World) : (Instr.makeSlice 27 (.int .i64 2) (.int .i64 2)).run Tryd.prog W = .ok (.slice (some ⟨W.heap.size, 0, none⟩) 2 2) (W.alloc (.cells #[.int .u8 0, .int .u8 0] 5)) := by kernel_rfl
set_option maxRecDepth 100000 in
theorem rmake4 (W : World) : (Instr.makeSlice 27 (.int .i64 4) (.int .i64 4)).run Tryd.prog W = .ok (.slice (some ⟨W.heap.size, 0, none⟩) 4 4) (W.alloc (.cells #[.int .u8 0, .int .u8 0, .int .u8 0, .int .u8 0] 5)) := by kernel_rfl
set_option maxRecDepth 100000 in
theorem rmake8 (W : World) : (Instr.makeSlice 27 (.int .i64 8) (.int .i64 8)).run Tryd.prog W = .ok (.slice (some ⟨W.heap.size, 0, none⟩) 8 8) (W.alloc (.cells #[.int .u8 0, .int .u8 0, .int .u8 0, .int .u8 0, .int .u8 0, .int .u8 0, .int .u8 0, .int .u8 0] 5)) := by kernel_rfl
set_option maxRecDepth 100000 in
theorem rmark1 (w : World) : Calls Tryd.prog 65 #[.int .i64 1] w fun e w' => e = .returned (.int .i64 0) ∧ w = w' := mark_any 1 w (by simp [four])
set_option maxRecDepth 100000 in
theorem rmark2 (w : World) : Calls Tryd.prog 65 #[.int .i64 2] w fun e w' => e = .returned (.int .i64 64) ∧ w = w' := mark_any 2 w (by simp [four])
set_option maxRecDepth 100000 in
theorem rmark4 (w : World) : Calls Tryd.prog 65 #[.int .i64 4] w fun e w' => e = .returned (.int .i64 128) ∧ w = w' := mark_any 4 w (by simp [four])
set_option maxRecDepth 100000 in
theorem rmark8 (w : World) : Calls Tryd.prog 65 #[.int .i64 8] w fun e w' => e = .returned (.int .i64 192) ∧ w = w' := mark_any 8 w (by simp [four])

set_option maxRecDepth 100000 in
/-- A block of bytes, whole. -/
theorem byt_block {w : World} {g : Nat} {l : List Int} (hl : allByte l) (hn : l.length ≤ maxLen) (h : w.heap[g]? = some (.cells (l.map (Value.int .u8)).toArray 5 (0, 0))) : Byt w (some ⟨g, 0, none⟩) l.length l.length l :=
  ⟨rfl, Nat.le_refl _, hn, hl, (fun h => by cases h), fun _ => ⟨g, 0, rfl, (Array.getElem?_eq_some_iff.1 h).1, fun k hk => by
    rw [Nat.zero_add, cell_of_row w g k _ _ _ h]
    simp [nth, List.getD, hk]⟩⟩

set_option maxRecDepth 100000 in
theorem cells1 (x : Int) : (#[.int .u8 (x % 256 + 0)] : Array Value) = ((enc x 1).map (Value.int .u8)).toArray := by
  have e : enc x 1 = [x % 256 + 0] := by
    simp [enc, be, dig, place, List.range, List.range.loop] <;> omega
  rw [e]; rfl
set_option maxRecDepth 100000 in
theorem cells2 (x : Int) : (#[.int .u8 (x / 256 % 256 + 64), .int .u8 (x % 256)] : Array Value) = ((enc x 2).map (Value.int .u8)).toArray := by
  have e : enc x 2 = [x / 256 % 256 + 64, x % 256] := by
    simp [enc, be, dig, place, List.range, List.range.loop] <;> omega
  rw [e]; rfl
set_option maxRecDepth 100000 in
theorem cells4 (x : Int) : (#[.int .u8 (x / 256 / 256 / 256 % 256 + 128), .int .u8 (x / 256 / 256 % 256), .int .u8 (x / 256 % 256), .int .u8 (x % 256)] : Array Value) = ((enc x 4).map (Value.int .u8)).toArray := by
  have e : enc x 4 = [x / 256 / 256 / 256 % 256 + 128, x / 256 / 256 % 256, x / 256 % 256, x % 256] := by
    simp [enc, be, dig, place, List.range, List.range.loop] <;> omega
  rw [e]; rfl
set_option maxRecDepth 100000 in
theorem cells8 (x : Int) : (#[.int .u8 (x / 256 / 256 / 256 / 256 / 256 / 256 / 256 % 256 + 192), .int .u8 (x / 256 / 256 / 256 / 256 / 256 / 256 % 256), .int .u8 (x / 256 / 256 / 256 / 256 / 256 % 256), .int .u8 (x / 256 / 256 / 256 / 256 % 256), .int .u8 (x / 256 / 256 / 256 % 256), .int .u8 (x / 256 / 256 % 256), .int .u8 (x / 256 % 256), .int .u8 (x % 256)] : Array Value) = ((enc x 8).map (Value.int .u8)).toArray := by
  have e : enc x 8 = [x / 256 / 256 / 256 / 256 / 256 / 256 / 256 % 256 + 192, x / 256 / 256 / 256 / 256 / 256 / 256 % 256, x / 256 / 256 / 256 / 256 / 256 % 256, x / 256 / 256 / 256 / 256 % 256, x / 256 / 256 / 256 % 256, x / 256 / 256 % 256, x / 256 % 256, x % 256] := by
    simp [enc, be, dig, place, List.range, List.range.loop] <;> omega
  rw [e]; rfl

set_option maxRecDepth 100000 in
set_option maxHeartbeats 1000000 in
theorem rputIn_1 (A : Option Addr) (n c : Nat) (x : Int) (l : List Int) (w : World) (hb : Byt w A n c l) (hn : n ≤ 140737488355320) (h : size x ≠ 0) (h3 : size x ≤ 1) :
    Calls Tryd.prog 53 #[.slice A n c, .int .i64 x, .int .i64 1] w (Put2 (l ++ enc x 1) 0 w) := by
  have h0 : (size x == 0) = false := by simp [h]
  obtain ⟨hx0, hx1, hx2⟩ := size_le x 1 (by simp [four]) h h3
  have hx3 : x < 64 := by simpa using hx2
  have hby : Hid (allByte (enc x 1)) := Lib.hid (enc_bytes x 1 (by simp [four]) hx0 (by simpa using hx2))
  have HL := Lib.hid hb.len
  have hmk := rmake1
  have HCE := Lib.hid (cells1 x)
  clear h hx2
  go_enter Tryd.func53, Tryd.ntmps53
  go_wp2_with (go_at_call 54; ((with_reducible refine (rsize_any _ _).mono ?_); rintro e w' ⟨rfl, rfl⟩))
  refine wp_loop_rounds 2 ?_
  rw [rounds_succ]
  go_wp2
  rw [rounds_succ]
  go_wp2
  go_region_with (go_at_call 65; refine (rmark1 _).mono ?_; rintro e w' ⟨rfl, rfl⟩)
  all_goals
    go_wp2_with fail
    refine (copy_any A n c l _ (hb.kept (by first | exact (Kept.refl w).alloc _ | exact ((Kept.refl w).alloc _).drew | exact ((Kept.refl w).alloc _).drew.drew)) (by omega)).mono ?_
    rintro e w1 ⟨v, rfl, ho, hk⟩
    have hsz : w.heap.size + 1 ≤ w1.heap.size := by have := hk.size; simp at this; omega
    have ho' := ho.more (base' := w.heap.size) (by simp)
    have hB := byt_block (l := enc x 1) hby.out (by rw [enc_length]; simp [maxLen]) (((Below.block hk w.heap.size (by simp)).trans (heap_alloc_new w _)).trans (by rw [← HCE.out]))
    rw [enc_length] at hB
    have hlen : l.length + 1 ≤ 140737488355328 := by rw [HL.out]; omega
    have hK : Kept w w1 := Kept.trans (by first | exact (Kept.refl w).alloc _ | exact ((Kept.refl w).alloc _).drew | exact ((Kept.refl w).alloc _).drew.drew) hk
    clear ho
    go_wp2_with (at_builtin; refine wpList_app rfl (.tmp 61) (.tmp 62) rfl w.heap.size v l rfl ho' (some ⟨w.heap.size, 0, none⟩) 1 1 (enc x 1) rfl hB hlen (by omega) ?_; intro v' w2 ho2 hg2 hw2)
    go_ret2
    exact ⟨_, rfl, ho2, Below.grown hK hg2 hK.size (fun k hk' => (ho'.1.lt k hk').1)⟩

set_option maxRecDepth 100000 in
set_option maxHeartbeats 1000000 in
theorem rputIn_2 (A : Option Addr) (n c : Nat) (x : Int) (l : List Int) (w : World) (hb : Byt w A n c l) (hn : n ≤ 140737488355320) (h : size x ≠ 0) (h3 : size x ≤ 2) :
    Calls Tryd.prog 53 #[.slice A n c, .int .i64 x, .int .i64 2] w (Put2 (l ++ enc x 2) 0 w) := by
  have h0 : (size x == 0) = false := by simp [h]
  obtain ⟨hx0, hx1, hx2⟩ := size_le x 2 (by simp [four]) h h3
  have hx3 : x < 16384 := by simpa using hx2
  have hby : Hid (allByte (enc x 2)) := Lib.hid (enc_bytes x 2 (by simp [four]) hx0 (by simpa using hx2))
  have HL := Lib.hid hb.len
  have hmk := rmake2
  have HCE := Lib.hid (cells2 x)
  clear h hx2
  go_enter Tryd.func53, Tryd.ntmps53
  go_wp2_with (go_at_call 54; ((with_reducible refine (rsize_any _ _).mono ?_); rintro e w' ⟨rfl, rfl⟩))
  refine wp_loop_rounds 3 ?_
  rw [rounds_succ]
  go_wp2
  rw [rounds_succ]
  go_wp2
  rw [rounds_succ]
  go_wp2
  go_region_with (go_at_call 65; refine (rmark2 _).mono ?_; rintro e w' ⟨rfl, rfl⟩)
  all_goals
    go_wp2_with fail
    refine (copy_any A n c l _ (hb.kept (by first | exact (Kept.refl w).alloc _ | exact ((Kept.refl w).alloc _).drew | exact ((Kept.refl w).alloc _).drew.drew)) (by omega)).mono ?_
    rintro e w1 ⟨v, rfl, ho, hk⟩
    have hsz : w.heap.size + 1 ≤ w1.heap.size := by have := hk.size; simp at this; omega
    have ho' := ho.more (base' := w.heap.size) (by simp)
    have hB := byt_block (l := enc x 2) hby.out (by rw [enc_length]; simp [maxLen]) (((Below.block hk w.heap.size (by simp)).trans (heap_alloc_new w _)).trans (by rw [← HCE.out]))
    rw [enc_length] at hB
    have hlen : l.length + 2 ≤ 140737488355328 := by rw [HL.out]; omega
    have hK : Kept w w1 := Kept.trans (by first | exact (Kept.refl w).alloc _ | exact ((Kept.refl w).alloc _).drew | exact ((Kept.refl w).alloc _).drew.drew) hk
    clear ho
    go_wp2_with (at_builtin; refine wpList_app rfl (.tmp 61) (.tmp 62) rfl w.heap.size v l rfl ho' (some ⟨w.heap.size, 0, none⟩) 2 2 (enc x 2) rfl hB hlen (by omega) ?_; intro v' w2 ho2 hg2 hw2)
    go_ret2
    exact ⟨_, rfl, ho2, Below.grown hK hg2 hK.size (fun k hk' => (ho'.1.lt k hk').1)⟩

set_option maxRecDepth 100000 in
set_option maxHeartbeats 1000000 in
theorem rputIn_4 (A : Option Addr) (n c : Nat) (x : Int) (l : List Int) (w : World) (hb : Byt w A n c l) (hn : n ≤ 140737488355320) (h : size x ≠ 0) (h3 : size x ≤ 4) :
    Calls Tryd.prog 53 #[.slice A n c, .int .i64 x, .int .i64 4] w (Put2 (l ++ enc x 4) 0 w) := by
  have h0 : (size x == 0) = false := by simp [h]
  obtain ⟨hx0, hx1, hx2⟩ := size_le x 4 (by simp [four]) h h3
  have hx3 : x < 1073741824 := by simpa using hx2
  have hby : Hid (allByte (enc x 4)) := Lib.hid (enc_bytes x 4 (by simp [four]) hx0 (by simpa using hx2))
  have HL := Lib.hid hb.len
  have hmk := rmake4
  have HCE := Lib.hid (cells4 x)
  clear h hx2
  go_enter Tryd.func53, Tryd.ntmps53
  go_wp2_with (go_at_call 54; ((with_reducible refine (rsize_any _ _).mono ?_); rintro e w' ⟨rfl, rfl⟩))
  refine wp_loop_rounds 5 ?_
  rw [rounds_succ]
  go_wp2
  rw [rounds_succ]
  go_wp2
  rw [rounds_succ]
  go_wp2
  rw [rounds_succ]
  go_wp2
  rw [rounds_succ]
  go_wp2
  go_region_with (go_at_call 65; refine (rmark4 _).mono ?_; rintro e w' ⟨rfl, rfl⟩)
  all_goals
    go_wp2_with fail
    refine (copy_any A n c l _ (hb.kept (by first | exact (Kept.refl w).alloc _ | exact ((Kept.refl w).alloc _).drew | exact ((Kept.refl w).alloc _).drew.drew)) (by omega)).mono ?_
    rintro e w1 ⟨v, rfl, ho, hk⟩
    have hsz : w.heap.size + 1 ≤ w1.heap.size := by have := hk.size; simp at this; omega
    have ho' := ho.more (base' := w.heap.size) (by simp)
    have hB := byt_block (l := enc x 4) hby.out (by rw [enc_length]; simp [maxLen]) (((Below.block hk w.heap.size (by simp)).trans (heap_alloc_new w _)).trans (by rw [← HCE.out]))
    rw [enc_length] at hB
    have hlen : l.length + 4 ≤ 140737488355328 := by rw [HL.out]; omega
    have hK : Kept w w1 := Kept.trans (by first | exact (Kept.refl w).alloc _ | exact ((Kept.refl w).alloc _).drew | exact ((Kept.refl w).alloc _).drew.drew) hk
    clear ho
    go_wp2_with (at_builtin; refine wpList_app rfl (.tmp 61) (.tmp 62) rfl w.heap.size v l rfl ho' (some ⟨w.heap.size, 0, none⟩) 4 4 (enc x 4) rfl hB hlen (by omega) ?_; intro v' w2 ho2 hg2 hw2)
    go_ret2
    exact ⟨_, rfl, ho2, Below.grown hK hg2 hK.size (fun k hk' => (ho'.1.lt k hk').1)⟩

set_option maxRecDepth 100000 in
set_option maxHeartbeats 1000000 in
theorem rputIn_8 (A : Option Addr) (n c : Nat) (x : Int) (l : List Int) (w : World) (hb : Byt w A n c l) (hn : n ≤ 140737488355320) (h : size x ≠ 0) (h3 : size x ≤ 8) :
    Calls Tryd.prog 53 #[.slice A n c, .int .i64 x, .int .i64 8] w (Put2 (l ++ enc x 8) 0 w) := by
  have h0 : (size x == 0) = false := by simp [h]
  obtain ⟨hx0, hx1, hx2⟩ := size_le x 8 (by simp [four]) h h3
  have hx3 : x < 4611686018427387904 := by simpa using hx2
  have hby : Hid (allByte (enc x 8)) := Lib.hid (enc_bytes x 8 (by simp [four]) hx0 (by simpa using hx2))
  have HL := Lib.hid hb.len
  have hmk := rmake8
  have HCE := Lib.hid (cells8 x)
  clear h hx2
  go_enter Tryd.func53, Tryd.ntmps53
  go_wp2_with (go_at_call 54; ((with_reducible refine (rsize_any _ _).mono ?_); rintro e w' ⟨rfl, rfl⟩))
  refine wp_loop_rounds 9 ?_
  rw [rounds_succ]
  go_wp2
  rw [rounds_succ]
  go_wp2
  rw [rounds_succ]
  go_wp2
  rw [rounds_succ]
  go_wp2
  rw [rounds_succ]
  go_wp2
  rw [rounds_succ]
  go_wp2
  rw [rounds_succ]
  go_wp2
  rw [rounds_succ]
  go_wp2
  rw [rounds_succ]
  go_wp2
  go_region_with (go_at_call 65; refine (rmark8 _).mono ?_; rintro e w' ⟨rfl, rfl⟩)
  all_goals
    go_wp2_with fail
    refine (copy_any A n c l _ (hb.kept (by first | exact (Kept.refl w).alloc _ | exact ((Kept.refl w).alloc _).drew | exact ((Kept.refl w).alloc _).drew.drew)) (by omega)).mono ?_
    rintro e w1 ⟨v, rfl, ho, hk⟩
    have hsz : w.heap.size + 1 ≤ w1.heap.size := by have := hk.size; simp at this; omega
    have ho' := ho.more (base' := w.heap.size) (by simp)
    have hB := byt_block (l := enc x 8) hby.out (by rw [enc_length]; simp [maxLen]) (((Below.block hk w.heap.size (by simp)).trans (heap_alloc_new w _)).trans (by rw [← HCE.out]))
    rw [enc_length] at hB
    have hlen : l.length + 8 ≤ 140737488355328 := by rw [HL.out]; omega
    have hK : Kept w w1 := Kept.trans (by first | exact (Kept.refl w).alloc _ | exact ((Kept.refl w).alloc _).drew | exact ((Kept.refl w).alloc _).drew.drew) hk
    clear ho
    go_wp2_with (at_builtin; refine wpList_app rfl (.tmp 61) (.tmp 62) rfl w.heap.size v l rfl ho' (some ⟨w.heap.size, 0, none⟩) 8 8 (enc x 8) rfl hB hlen (by omega) ?_; intro v' w2 ho2 hg2 hw2)
    go_ret2
    exact ⟨_, rfl, ho2, Below.grown hK hg2 hK.size (fun k hk' => (ho'.1.lt k hk').1)⟩

set_option maxRecDepth 100000 in
theorem rputIn_any (A : Option Addr) (n c : Nat) (x s : Int) (l : List Int) (w : World) (hb : Byt w A n c l) (hn : n ≤ 140737488355320) :
    Calls Tryd.prog 53 #[.slice A n c, .int .i64 x, .int .i64 s] w (Put2 (putOut l x s) (putErr x s) w) := by
  by_cases h : size x = 0
  · rw [putOut_not l x s (by rw [putErr_range x s h]; decide), putErr_range x s h]
    exact rputIn_range A n c x s w h
  · by_cases h1 : four s ∧ size x ≤ s
    · rw [putOut_ok l x s (putErr_ok x s h h1), putErr_ok x s h h1]
      obtain ⟨h2, h3⟩ := h1
      rcases h2 with rfl | rfl | rfl | rfl
      · exact rputIn_1 A n c x l w hb hn h h3
      · exact rputIn_2 A n c x l w hb hn h h3
      · exact rputIn_4 A n c x l w hb hn h h3
      · exact rputIn_8 A n c x l w hb hn h h3
    · rw [putOut_not l x s (by rw [putErr_arg x s h h1]; decide), putErr_arg x s h h1]
      exact rputIn_arg A n c x s w h h1

set_option maxRecDepth 100000 in
theorem put_max (l : List Int) (x : Int) (h : size x ≤ 1) : putOut l x 1 = putOut l x (size x) ∧ putErr x 1 = putErr x (size x) := by
  rcases size_cases x with h | h | h | h | h
  · rw [putErr_range x _ h, putErr_range x _ h, putOut_not l x _ (by rw [putErr_range x _ h]; decide), putOut_not l x _ (by rw [putErr_range x _ h]; decide)]; exact ⟨rfl, rfl⟩
  · rw [h]; exact ⟨rfl, rfl⟩
  all_goals omega

set_option maxRecDepth 100000 in
set_option maxHeartbeats 400000 in
theorem rput_any (A : Option Addr) (n c : Nat) (x : Int) (l : List Int) (w : World) (hb : Byt w A n c l) (hn : n ≤ 140737488355320) :
    Calls Tryd.prog 37 #[.slice A n c, .int .i64 x] w (Put2 (putOut l x (size x)) (putErr x (size x)) w) := by
  by_cases h : 1 < size x
  · have hd : decide (1 < size x) = true := by simpa using h
    go_enter Tryd.func37, Tryd.ntmps37
    go_wp2_with (first | (go_at_call 54; ((with_reducible refine (rsize_any _ _).mono ?_); rintro e w' ⟨rfl, rfl⟩)) | (go_at_call 53; ((refine (rputIn_any A n c x (size x) l _ hb hn).mono ?_); rintro e w' ⟨v, rfl, ho, hk⟩)))
    go_ret2
    exact ⟨v, rfl, ho, hk⟩
  · have HM := Lib.hid (put_max l x (by omega))
    have hd : decide (1 < size x) = false := by simpa using h
    go_enter Tryd.func37, Tryd.ntmps37
    go_wp2_with (first | (go_at_call 54; ((with_reducible refine (rsize_any _ _).mono ?_); rintro e w' ⟨rfl, rfl⟩)) | (go_at_call 53; ((refine (rputIn_any A n c x 1 l _ hb hn).mono ?_); rintro e w' ⟨v, rfl, ho, hk⟩)))
    go_ret2
    refine ⟨v, ?_, by rw [← HM.out.1]; exact ho, hk⟩
    rw [← HM.out.2]; rfl

end Go.Proofs.YtganelhlpobdjaaDoor.Oct
