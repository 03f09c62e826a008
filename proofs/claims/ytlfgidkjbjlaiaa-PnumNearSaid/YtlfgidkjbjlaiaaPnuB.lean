/-
  Contracts of Cut, pnum's and the document's own: the bytes lie in memory of their own.
-/
import Derived.Test.YtlfgidkjbjlaiaaPnuA
namespace Go.Proofs.Ytlfgidkjbjlaiaa.Pnu
open Go.RowKit OctM Oct PnuM
set_option linter.unusedSimpArgs false
set_option linter.unusedVariables false

/-- Bytes in new memory, and an error. -/
def Cuts (l : List Int) (err : Int) (w : World) (e : Ending) (w' : World) : Prop := ∃ A n c, e = .returned (.tuple #[.slice A n c, .int .i64 err]) ∧ Byt w' A n c l ∧ Kept w w'

/-- The front of a block is bytes. -/
theorem byt_front {w : World} {g n : Nat} {t : TypeId} {l m : List Int} (hn : l.length = n) (hl : allByte l) (hm : n ≤ 4) (h : w.heap[g]? = some (.cells ((l ++ m).map (Value.int .u8)).toArray t (0, 0))) : Byt w (some ⟨g, 0, none⟩) n n l :=
  ⟨hn, Nat.le_refl _, by simp only [maxLen]; omega, hl, (fun h => by cases h), fun _ => ⟨g, 0, rfl, (Array.getElem?_eq_some_iff.1 h).1, fun k hk => by
    rw [Nat.zero_add, cell_of_row w g k _ _ _ h]
    have hk' : k < l.length := by omega
    rw [List.map_append, List.getElem?_toArray, List.getElem?_append_left (by simpa using hk')]
    simp [nth, List.getD, hk']⟩⟩
theorem be_len (x : Int) (k : Nat) : (be x k).length = k := be_length x k

theorem arr1 (g : Nat) (W : World) : (Instr.sliceAt 41 (.pointer (some ⟨g, 0, none⟩)) none (some (.int .i64 1)) (some (.int .i64 1))).run Try.prog W = .ok (.slice (some ⟨g, 0, none⟩) 1 1) W := by kernel_rfl
theorem mk1 (W : World) : (Instr.makeSlice 22 (.int .i64 1) (.int .i64 1)).run Try.prog W = .ok (.slice (some ⟨W.heap.size, 0, none⟩) 1 1) (W.alloc (.cells #[.int .u8 0] 5)) := by kernel_rfl
theorem cellsA1 (x : Int) : (#[.int .u8 (x % 256), .int .u8 0, .int .u8 0, .int .u8 0] : Array Value) = ((be x 1 ++ [0, 0, 0]).map (Value.int .u8)).toArray := by rw [be1]; rfl
theorem cellsB1 (x : Int) : (#[.int .u8 (x % 256)] : Array Value) = ((be x 1 ++ []).map (Value.int .u8)).toArray := by rw [be1]; rfl

theorem arr2 (g : Nat) (W : World) : (Instr.sliceAt 41 (.pointer (some ⟨g, 0, none⟩)) none (some (.int .i64 2)) (some (.int .i64 2))).run Try.prog W = .ok (.slice (some ⟨g, 0, none⟩) 2 2) W := by kernel_rfl
theorem mk2 (W : World) : (Instr.makeSlice 22 (.int .i64 2) (.int .i64 2)).run Try.prog W = .ok (.slice (some ⟨W.heap.size, 0, none⟩) 2 2) (W.alloc (.cells #[.int .u8 0, .int .u8 0] 5)) := by kernel_rfl
theorem cellsA2 (x : Int) : (#[.int .u8 (x / 256 % 256), .int .u8 (x % 256), .int .u8 0, .int .u8 0] : Array Value) = ((be x 2 ++ [0, 0]).map (Value.int .u8)).toArray := by rw [be2]; rfl
theorem cellsB2 (x : Int) : (#[.int .u8 (x / 256 % 256), .int .u8 (x % 256)] : Array Value) = ((be x 2 ++ []).map (Value.int .u8)).toArray := by rw [be2]; rfl

theorem arr3 (g : Nat) (W : World) : (Instr.sliceAt 41 (.pointer (some ⟨g, 0, none⟩)) none (some (.int .i64 3)) (some (.int .i64 3))).run Try.prog W = .ok (.slice (some ⟨g, 0, none⟩) 3 3) W := by kernel_rfl
theorem mk3 (W : World) : (Instr.makeSlice 22 (.int .i64 3) (.int .i64 3)).run Try.prog W = .ok (.slice (some ⟨W.heap.size, 0, none⟩) 3 3) (W.alloc (.cells #[.int .u8 0, .int .u8 0, .int .u8 0] 5)) := by kernel_rfl
theorem cellsA3 (x : Int) : (#[.int .u8 (x / 256 / 256 % 256), .int .u8 (x / 256 % 256), .int .u8 (x % 256), .int .u8 0] : Array Value) = ((be x 3 ++ [0]).map (Value.int .u8)).toArray := by rw [be3]; rfl
theorem cellsB3 (x : Int) : (#[.int .u8 (x / 256 / 256 % 256), .int .u8 (x / 256 % 256), .int .u8 (x % 256)] : Array Value) = ((be x 3 ++ []).map (Value.int .u8)).toArray := by rw [be3]; rfl

theorem arr4 (g : Nat) (W : World) : (Instr.sliceAt 41 (.pointer (some ⟨g, 0, none⟩)) none (some (.int .i64 4)) (some (.int .i64 4))).run Try.prog W = .ok (.slice (some ⟨g, 0, none⟩) 4 4) W := by kernel_rfl
theorem mk4 (W : World) : (Instr.makeSlice 22 (.int .i64 4) (.int .i64 4)).run Try.prog W = .ok (.slice (some ⟨W.heap.size, 0, none⟩) 4 4) (W.alloc (.cells #[.int .u8 0, .int .u8 0, .int .u8 0, .int .u8 0] 5)) := by kernel_rfl
theorem cellsA4 (x : Int) : (#[.int .u8 (x / 256 / 256 / 256 % 256), .int .u8 (x / 256 / 256 % 256), .int .u8 (x / 256 % 256), .int .u8 (x % 256)] : Array Value) = ((be x 4 ++ []).map (Value.int .u8)).toArray := by rw [be4]; rfl
theorem cellsB4 (x : Int) : (#[.int .u8 (x / 256 / 256 / 256 % 256), .int .u8 (x / 256 / 256 % 256), .int .u8 (x / 256 % 256), .int .u8 (x % 256)] : Array Value) = ((be x 4 ++ []).map (Value.int .u8)).toArray := by rw [be4]; rfl

set_option maxHeartbeats 1000000 in
theorem cut_1 (x : Int) (w : World) (h : isn x) : Calls Try.prog 11 #[.int .i64 x, .int .i64 1] w (Cuts (be x 1) 0 w) := by
  have d1 : decide (isn x) = true := by simp [h]
  have d2 : decide (len4 1) = true := by decide
  obtain ⟨f0, f1⟩ := h
  have hmk := arr1
  have HCE := Lib.hid (cellsA1 x)
  go_enter Try.func11, Try.ntmps11
  go_wp2_with (first | (go_at_call 19; ((with_reducible refine (isNumber_any _ _).mono ?_); rintro e w' ⟨rfl, rfl⟩)) | (go_at_call 24; ((with_reducible refine (isLength_any _ _).mono ?_); rintro e w' ⟨rfl, rfl⟩)))
  refine wp_loop_rounds 2 ?_
  rw [rounds_succ]
  go_wp2_with (first | (go_at_call 19; ((with_reducible refine (isNumber_any _ _).mono ?_); rintro e w' ⟨rfl, rfl⟩)) | (go_at_call 24; ((with_reducible refine (isLength_any _ _).mono ?_); rintro e w' ⟨rfl, rfl⟩)))
  rw [rounds_succ]
  go_wp2_with (first | (go_at_call 19; ((with_reducible refine (isNumber_any _ _).mono ?_); rintro e w' ⟨rfl, rfl⟩)) | (go_at_call 24; ((with_reducible refine (isLength_any _ _).mono ?_); rintro e w' ⟨rfl, rfl⟩)))
  go_ret2
  refine ⟨_, _, _, rfl, byt_front (be_len x 1) (be_bytes x 1) (by decide) ((heap_alloc_new w _).trans (by rw [← HCE.out])), (Kept.refl w).alloc _⟩

set_option maxHeartbeats 1000000 in
theorem cut_2 (x : Int) (w : World) (h : isn x) : Calls Try.prog 11 #[.int .i64 x, .int .i64 2] w (Cuts (be x 2) 0 w) := by
  have d1 : decide (isn x) = true := by simp [h]
  have d2 : decide (len4 2) = true := by decide
  obtain ⟨f0, f1⟩ := h
  have hmk := arr2
  have HCE := Lib.hid (cellsA2 x)
  go_enter Try.func11, Try.ntmps11
  go_wp2_with (first | (go_at_call 19; ((with_reducible refine (isNumber_any _ _).mono ?_); rintro e w' ⟨rfl, rfl⟩)) | (go_at_call 24; ((with_reducible refine (isLength_any _ _).mono ?_); rintro e w' ⟨rfl, rfl⟩)))
  refine wp_loop_rounds 3 ?_
  rw [rounds_succ]
  go_wp2_with (first | (go_at_call 19; ((with_reducible refine (isNumber_any _ _).mono ?_); rintro e w' ⟨rfl, rfl⟩)) | (go_at_call 24; ((with_reducible refine (isLength_any _ _).mono ?_); rintro e w' ⟨rfl, rfl⟩)))
  rw [rounds_succ]
  go_wp2_with (first | (go_at_call 19; ((with_reducible refine (isNumber_any _ _).mono ?_); rintro e w' ⟨rfl, rfl⟩)) | (go_at_call 24; ((with_reducible refine (isLength_any _ _).mono ?_); rintro e w' ⟨rfl, rfl⟩)))
  rw [rounds_succ]
  go_wp2_with (first | (go_at_call 19; ((with_reducible refine (isNumber_any _ _).mono ?_); rintro e w' ⟨rfl, rfl⟩)) | (go_at_call 24; ((with_reducible refine (isLength_any _ _).mono ?_); rintro e w' ⟨rfl, rfl⟩)))
  go_ret2
  refine ⟨_, _, _, rfl, byt_front (be_len x 2) (be_bytes x 2) (by decide) ((heap_alloc_new w _).trans (by rw [← HCE.out])), (Kept.refl w).alloc _⟩

set_option maxHeartbeats 1000000 in
theorem cut_3 (x : Int) (w : World) (h : isn x) : Calls Try.prog 11 #[.int .i64 x, .int .i64 3] w (Cuts (be x 3) 0 w) := by
  have d1 : decide (isn x) = true := by simp [h]
  have d2 : decide (len4 3) = true := by decide
  obtain ⟨f0, f1⟩ := h
  have hmk := arr3
  have HCE := Lib.hid (cellsA3 x)
  go_enter Try.func11, Try.ntmps11
  go_wp2_with (first | (go_at_call 19; ((with_reducible refine (isNumber_any _ _).mono ?_); rintro e w' ⟨rfl, rfl⟩)) | (go_at_call 24; ((with_reducible refine (isLength_any _ _).mono ?_); rintro e w' ⟨rfl, rfl⟩)))
  refine wp_loop_rounds 4 ?_
  rw [rounds_succ]
  go_wp2_with (first | (go_at_call 19; ((with_reducible refine (isNumber_any _ _).mono ?_); rintro e w' ⟨rfl, rfl⟩)) | (go_at_call 24; ((with_reducible refine (isLength_any _ _).mono ?_); rintro e w' ⟨rfl, rfl⟩)))
  rw [rounds_succ]
  go_wp2_with (first | (go_at_call 19; ((with_reducible refine (isNumber_any _ _).mono ?_); rintro e w' ⟨rfl, rfl⟩)) | (go_at_call 24; ((with_reducible refine (isLength_any _ _).mono ?_); rintro e w' ⟨rfl, rfl⟩)))
  rw [rounds_succ]
  go_wp2_with (first | (go_at_call 19; ((with_reducible refine (isNumber_any _ _).mono ?_); rintro e w' ⟨rfl, rfl⟩)) | (go_at_call 24; ((with_reducible refine (isLength_any _ _).mono ?_); rintro e w' ⟨rfl, rfl⟩)))
  rw [rounds_succ]
  go_wp2_with (first | (go_at_call 19; ((with_reducible refine (isNumber_any _ _).mono ?_); rintro e w' ⟨rfl, rfl⟩)) | (go_at_call 24; ((with_reducible refine (isLength_any _ _).mono ?_); rintro e w' ⟨rfl, rfl⟩)))
  go_ret2
  refine ⟨_, _, _, rfl, byt_front (be_len x 3) (be_bytes x 3) (by decide) ((heap_alloc_new w _).trans (by rw [← HCE.out])), (Kept.refl w).alloc _⟩

set_option maxHeartbeats 1000000 in
theorem cut_4 (x : Int) (w : World) (h : isn x) : Calls Try.prog 11 #[.int .i64 x, .int .i64 4] w (Cuts (be x 4) 0 w) := by
  have d1 : decide (isn x) = true := by simp [h]
  have d2 : decide (len4 4) = true := by decide
  obtain ⟨f0, f1⟩ := h
  have hmk := arr4
  have HCE := Lib.hid (cellsA4 x)
  go_enter Try.func11, Try.ntmps11
  go_wp2_with (first | (go_at_call 19; ((with_reducible refine (isNumber_any _ _).mono ?_); rintro e w' ⟨rfl, rfl⟩)) | (go_at_call 24; ((with_reducible refine (isLength_any _ _).mono ?_); rintro e w' ⟨rfl, rfl⟩)))
  refine wp_loop_rounds 5 ?_
  rw [rounds_succ]
  go_wp2_with (first | (go_at_call 19; ((with_reducible refine (isNumber_any _ _).mono ?_); rintro e w' ⟨rfl, rfl⟩)) | (go_at_call 24; ((with_reducible refine (isLength_any _ _).mono ?_); rintro e w' ⟨rfl, rfl⟩)))
  rw [rounds_succ]
  go_wp2_with (first | (go_at_call 19; ((with_reducible refine (isNumber_any _ _).mono ?_); rintro e w' ⟨rfl, rfl⟩)) | (go_at_call 24; ((with_reducible refine (isLength_any _ _).mono ?_); rintro e w' ⟨rfl, rfl⟩)))
  rw [rounds_succ]
  go_wp2_with (first | (go_at_call 19; ((with_reducible refine (isNumber_any _ _).mono ?_); rintro e w' ⟨rfl, rfl⟩)) | (go_at_call 24; ((with_reducible refine (isLength_any _ _).mono ?_); rintro e w' ⟨rfl, rfl⟩)))
  rw [rounds_succ]
  go_wp2_with (first | (go_at_call 19; ((with_reducible refine (isNumber_any _ _).mono ?_); rintro e w' ⟨rfl, rfl⟩)) | (go_at_call 24; ((with_reducible refine (isLength_any _ _).mono ?_); rintro e w' ⟨rfl, rfl⟩)))
  rw [rounds_succ]
  go_wp2_with (first | (go_at_call 19; ((with_reducible refine (isNumber_any _ _).mono ?_); rintro e w' ⟨rfl, rfl⟩)) | (go_at_call 24; ((with_reducible refine (isLength_any _ _).mono ?_); rintro e w' ⟨rfl, rfl⟩)))
  go_ret2
  refine ⟨_, _, _, rfl, byt_front (be_len x 4) (be_bytes x 4) (by decide) ((heap_alloc_new w _).trans (by rw [← HCE.out])), (Kept.refl w).alloc _⟩

set_option maxHeartbeats 400000 in
theorem cut_range (x n : Int) (w : World) (h : ¬ isn x) : Calls Try.prog 11 #[.int .i64 x, .int .i64 n] w (Cuts [] 9 w) := by
  have d1 : decide (isn x) = false := by simp [h]
  clear h
  go_enter Try.func11, Try.ntmps11
  go_wp2_with (first | (go_at_call 19; ((with_reducible refine (isNumber_any _ _).mono ?_); rintro e w' ⟨rfl, rfl⟩)) | (go_at_call 24; ((with_reducible refine (isLength_any _ _).mono ?_); rintro e w' ⟨rfl, rfl⟩)))
  go_ret2
  exact ⟨_, _, _, rfl, Byt.nil _, Kept.refl _⟩
set_option maxHeartbeats 400000 in
theorem cut_arg (x n : Int) (w : World) (h : isn x) (h2 : ¬ len4 n) : Calls Try.prog 11 #[.int .i64 x, .int .i64 n] w (Cuts [] 2 w) := by
  have d1 : decide (isn x) = true := by simp [h]
  have d2 : decide (len4 n) = false := by simp [h2]
  have h3 : n < 1 ∨ 4 < n := by unfold len4 at h2; omega
  clear h h2
  rcases h3 with h3 | h3
  all_goals
    go_enter Try.func11, Try.ntmps11
    go_wp2_with (first | (go_at_call 19; ((with_reducible refine (isNumber_any _ _).mono ?_); rintro e w' ⟨rfl, rfl⟩)) | (go_at_call 24; ((with_reducible refine (isLength_any _ _).mono ?_); rintro e w' ⟨rfl, rfl⟩)))
    go_ret2
    exact ⟨_, _, _, rfl, Byt.nil _, Kept.refl _⟩
theorem cut_any (x n : Int) (w : World) : Calls Try.prog 11 #[.int .i64 x, .int .i64 n] w (Cuts (cutL x n) (cutE x n) w) := by
  unfold cutL cutE
  by_cases h : isn x
  · by_cases h2 : len4 n
    · rw [if_pos ⟨h, h2⟩, if_pos h, if_pos h2]
      have h3 : n = 1 ∨ n = 2 ∨ n = 3 ∨ n = 4 := by unfold len4 at h2; omega
      rcases h3 with rfl | rfl | rfl | rfl
      · exact cut_1 x w h
      · exact cut_2 x w h
      · exact cut_3 x w h
      · exact cut_4 x w h
    · rw [if_neg (fun h => h2 h.2), if_pos h, if_neg h2]
      exact cut_arg x n w h h2
  · rw [if_neg (fun h' => h h'.1), if_neg h]
    exact cut_range x n w h

set_option maxHeartbeats 1000000 in
theorem rcut_1 (x : Int) (w : World) (h : isn x) : Calls Try.prog 12 #[.int .i64 x, .int .i64 1] w (Cuts (be x 1) 0 w) := by
  have d1 : decide (isn x) = true := by simp [h]
  have d2 : decide (len4 1) = true := by decide
  obtain ⟨f0, f1⟩ := h
  have hmk := mk1
  have HCE := Lib.hid (cellsB1 x)
  go_enter Try.func12, Try.ntmps12
  go_wp2_with (go_at_call 22; ((with_reducible refine (is_any _ _).mono ?_); rintro e w' ⟨rfl, rfl⟩))
  refine wp_loop_rounds 2 ?_
  rw [rounds_succ]
  go_wp2_with (go_at_call 22; ((with_reducible refine (is_any _ _).mono ?_); rintro e w' ⟨rfl, rfl⟩))
  rw [rounds_succ]
  go_wp2_with (go_at_call 22; ((with_reducible refine (is_any _ _).mono ?_); rintro e w' ⟨rfl, rfl⟩))
  go_ret2
  refine ⟨_, _, _, rfl, byt_front (be_len x 1) (be_bytes x 1) (by decide) ((heap_alloc_new w _).trans (by rw [← HCE.out])), (Kept.refl w).alloc _⟩

set_option maxHeartbeats 1000000 in
theorem rcut_2 (x : Int) (w : World) (h : isn x) : Calls Try.prog 12 #[.int .i64 x, .int .i64 2] w (Cuts (be x 2) 0 w) := by
  have d1 : decide (isn x) = true := by simp [h]
  have d2 : decide (len4 2) = true := by decide
  obtain ⟨f0, f1⟩ := h
  have hmk := mk2
  have HCE := Lib.hid (cellsB2 x)
  go_enter Try.func12, Try.ntmps12
  go_wp2_with (go_at_call 22; ((with_reducible refine (is_any _ _).mono ?_); rintro e w' ⟨rfl, rfl⟩))
  refine wp_loop_rounds 3 ?_
  rw [rounds_succ]
  go_wp2_with (go_at_call 22; ((with_reducible refine (is_any _ _).mono ?_); rintro e w' ⟨rfl, rfl⟩))
  rw [rounds_succ]
  go_wp2_with (go_at_call 22; ((with_reducible refine (is_any _ _).mono ?_); rintro e w' ⟨rfl, rfl⟩))
  rw [rounds_succ]
  go_wp2_with (go_at_call 22; ((with_reducible refine (is_any _ _).mono ?_); rintro e w' ⟨rfl, rfl⟩))
  go_ret2
  refine ⟨_, _, _, rfl, byt_front (be_len x 2) (be_bytes x 2) (by decide) ((heap_alloc_new w _).trans (by rw [← HCE.out])), (Kept.refl w).alloc _⟩

set_option maxHeartbeats 1000000 in
theorem rcut_3 (x : Int) (w : World) (h : isn x) : Calls Try.prog 12 #[.int .i64 x, .int .i64 3] w (Cuts (be x 3) 0 w) := by
  have d1 : decide (isn x) = true := by simp [h]
  have d2 : decide (len4 3) = true := by decide
  obtain ⟨f0, f1⟩ := h
  have hmk := mk3
  have HCE := Lib.hid (cellsB3 x)
  go_enter Try.func12, Try.ntmps12
  go_wp2_with (go_at_call 22; ((with_reducible refine (is_any _ _).mono ?_); rintro e w' ⟨rfl, rfl⟩))
  refine wp_loop_rounds 4 ?_
  rw [rounds_succ]
  go_wp2_with (go_at_call 22; ((with_reducible refine (is_any _ _).mono ?_); rintro e w' ⟨rfl, rfl⟩))
  rw [rounds_succ]
  go_wp2_with (go_at_call 22; ((with_reducible refine (is_any _ _).mono ?_); rintro e w' ⟨rfl, rfl⟩))
  rw [rounds_succ]
  go_wp2_with (go_at_call 22; ((with_reducible refine (is_any _ _).mono ?_); rintro e w' ⟨rfl, rfl⟩))
  rw [rounds_succ]
  go_wp2_with (go_at_call 22; ((with_reducible refine (is_any _ _).mono ?_); rintro e w' ⟨rfl, rfl⟩))
  go_ret2
  refine ⟨_, _, _, rfl, byt_front (be_len x 3) (be_bytes x 3) (by decide) ((heap_alloc_new w _).trans (by rw [← HCE.out])), (Kept.refl w).alloc _⟩

set_option maxHeartbeats 1000000 in
theorem rcut_4 (x : Int) (w : World) (h : isn x) : Calls Try.prog 12 #[.int .i64 x, .int .i64 4] w (Cuts (be x 4) 0 w) := by
  have d1 : decide (isn x) = true := by simp [h]
  have d2 : decide (len4 4) = true := by decide
  obtain ⟨f0, f1⟩ := h
  have hmk := mk4
  have HCE := Lib.hid (cellsB4 x)
  go_enter Try.func12, Try.ntmps12
  go_wp2_with (go_at_call 22; ((with_reducible refine (is_any _ _).mono ?_); rintro e w' ⟨rfl, rfl⟩))
  refine wp_loop_rounds 5 ?_
  rw [rounds_succ]
  go_wp2_with (go_at_call 22; ((with_reducible refine (is_any _ _).mono ?_); rintro e w' ⟨rfl, rfl⟩))
  rw [rounds_succ]
  go_wp2_with (go_at_call 22; ((with_reducible refine (is_any _ _).mono ?_); rintro e w' ⟨rfl, rfl⟩))
  rw [rounds_succ]
  go_wp2_with (go_at_call 22; ((with_reducible refine (is_any _ _).mono ?_); rintro e w' ⟨rfl, rfl⟩))
  rw [rounds_succ]
  go_wp2_with (go_at_call 22; ((with_reducible refine (is_any _ _).mono ?_); rintro e w' ⟨rfl, rfl⟩))
  rw [rounds_succ]
  go_wp2_with (go_at_call 22; ((with_reducible refine (is_any _ _).mono ?_); rintro e w' ⟨rfl, rfl⟩))
  go_ret2
  refine ⟨_, _, _, rfl, byt_front (be_len x 4) (be_bytes x 4) (by decide) ((heap_alloc_new w _).trans (by rw [← HCE.out])), (Kept.refl w).alloc _⟩

set_option maxHeartbeats 400000 in
theorem rcut_range (x n : Int) (w : World) (h : ¬ isn x) : Calls Try.prog 12 #[.int .i64 x, .int .i64 n] w (Cuts [] 9 w) := by
  have d1 : decide (isn x) = false := by simp [h]
  clear h
  go_enter Try.func12, Try.ntmps12
  go_wp2_with (go_at_call 22; ((with_reducible refine (is_any _ _).mono ?_); rintro e w' ⟨rfl, rfl⟩))
  go_ret2
  exact ⟨_, _, _, rfl, Byt.nil _, Kept.refl _⟩
set_option maxHeartbeats 400000 in
theorem rcut_arg (x n : Int) (w : World) (h : isn x) (h2 : ¬ len4 n) : Calls Try.prog 12 #[.int .i64 x, .int .i64 n] w (Cuts [] 2 w) := by
  have d1 : decide (isn x) = true := by simp [h]
  have d2 : decide (len4 n) = false := by simp [h2]
  have h3 : n < 1 ∨ 4 < n := by unfold len4 at h2; omega
  clear h h2
  rcases h3 with h3 | h3
  all_goals
    go_enter Try.func12, Try.ntmps12
    go_wp2_with (go_at_call 22; ((with_reducible refine (is_any _ _).mono ?_); rintro e w' ⟨rfl, rfl⟩))
    go_ret2
    exact ⟨_, _, _, rfl, Byt.nil _, Kept.refl _⟩
theorem rcut_any (x n : Int) (w : World) : Calls Try.prog 12 #[.int .i64 x, .int .i64 n] w (Cuts (cutL x n) (cutE x n) w) := by
  unfold cutL cutE
  by_cases h : isn x
  · by_cases h2 : len4 n
    · rw [if_pos ⟨h, h2⟩, if_pos h, if_pos h2]
      have h3 : n = 1 ∨ n = 2 ∨ n = 3 ∨ n = 4 := by unfold len4 at h2; omega
      rcases h3 with rfl | rfl | rfl | rfl
      · exact rcut_1 x w h
      · exact rcut_2 x w h
      · exact rcut_3 x w h
      · exact rcut_4 x w h
    · rw [if_neg (fun h => h2 h.2), if_pos h, if_neg h2]
      exact rcut_arg x n w h h2
  · rw [if_neg (fun h' => h h'.1), if_neg h]
    exact rcut_range x n w h

end Go.Proofs.Ytlfgidkjbjlaiaa.Pnu
