/-
  Contracts of the document's own PutIn and Put.
-/
import Derived.Test.YteleagklgnedaaaDoorOctJ
import Derived.Deep.RegionWith
import Derived.StillTailTactics
import Derived.Deep.QuietTactic
import Derived.BigQuiet
namespace Go.Proofs.YteleagklgnedaaaDoor.Oct
open Go.RowKit OctM
set_option linter.unusedSimpArgs false
set_option linter.unusedVariables false

set_option maxRecDepth 100000 in
theorem quiet_same {P : Program} {f : FuncId} {args : Array Value} {w : World} {n : Nat} {v : Value}
    (h : Calls P f args (w.drewN n) fun e w' => e = .returned v ∧ w.drewN n = w') : Calls P f args (w.drewN n) fun e w'' => e = .returned v ∧ ∃ m, w'' = w.drewN m :=
  Calls.quiet_of_same (h.mono fun _ _ ⟨a, b⟩ => ⟨a, b.symm⟩)

set_option maxRecDepth 100000 in
set_option maxHeartbeats 400000 in
theorem rputIn_range (A : Option Addr) (n c : Nat) (x s : Int) (w : World) (h : size x = 0) : Calls Tryd.prog 53 #[.slice A n c, .int .i64 x, .int .i64 s] w (Put2 [] 9 w) := by
  have h0 : (size x == 0) = true := by simp [h]
  go_enter Tryd.func53, Tryd.ntmps53
  go_wp2_with (go_at_call 54; ((with_reducible refine (rsize_any _ _).mono ?_); rintro e w' ⟨rfl, rfl⟩))
  go_ret2
  exact ⟨_, rfl, own_nil _ _, Kept.refl _⟩

set_option maxRecDepth 100000 in
set_option maxHeartbeats 400000 in
theorem rputIn_arg (A : Option Addr) (n c : Nat) (x s : Int) (w : World) (h : size x ≠ 0) (h1 : ¬ (four s ∧ size x ≤ s)) : Calls Tryd.prog 53 #[.slice A n c, .int .i64 x, .int .i64 s] w (Put2 [] 2 w) := by
  have h0 : (size x == 0) = false := by simp [h]
  by_cases h2 : four s
  · have h3 : s < size x := by
      rcases Int.lt_or_le s (size x) with h3 | h3
      · exact h3
      · exact absurd ⟨h2, h3⟩ h1
    clear h1 h
    rcases h2 with rfl | rfl | rfl | rfl
    all_goals
      go_enter Tryd.func53, Tryd.ntmps53
      go_wp2_with (go_at_call 54; ((with_reducible refine (rsize_any _ _).mono ?_); rintro e w' ⟨rfl, rfl⟩))
      go_ret2
      exact ⟨_, rfl, own_nil _ _, Kept.refl _⟩
  · unfold four at h2
    have n1 : (s != 1) = true := by simp; omega
    have n2 : (s != 2) = true := by simp; omega
    have n4 : (s != 4) = true := by simp; omega
    have n8 : (s != 8) = true := by simp; omega
    clear h1 h2 h
    go_enter Tryd.func53, Tryd.ntmps53
    go_wp2_with (go_at_call 54; ((with_reducible refine (rsize_any _ _).mono ?_); rintro e w' ⟨rfl, rfl⟩))
    go_ret2
    exact ⟨_, rfl, own_nil _ _, Kept.refl _⟩

set_option maxRecDepth 100000 in
theorem rmake1 (W : World) : (Instr.makeSlice 27 (.int .i64 1) (.int .i64 1)).run Tryd.prog W = .ok (.slice (some ⟨W.heap.size, 0, none⟩) 1 1) (W.alloc (.cells #[.int .u8 0] 5)) := by kernel_rfl
set_option maxRecDepth 100000 in
theorem rmake2 (W : World) : (Instr.makeSlice 27 (.int .i64 2) (.int .i64 2)).run Tryd.prog W = .ok (.slice (some ⟨W.heap.size, 0, none⟩) 2 2) (W.alloc (.cells #[.int .u8 0, .int .u8 0] 5)) := by kernel_rfl
set_option maxRecDepth 100000 in
theorem rmake4 (W : World) : (Instr.makeSlice 27 (.int .i64 4) (.int .i64 4)).run Tryd.prog W = .ok (.slice (some ⟨W.heap.size, 0, none⟩) 4 4) (W.alloc (.cells #[.int .u8 0, .int .u8 0, .int .u8 0, .int .u8 0] 5)) := by kernel_rfl
set_option maxRecDepth 100000 in
theorem rmake8 (W : World) : (Instr.makeSlice 27 (.int .i64 8) (.int .i64 8)).run Tryd.prog W = .ok (.slice (some ⟨W.heap.size, 0, none⟩) 8 8) (W.alloc (.cells #[.int .u8 0, .int .u8 0, .int .u8 0, .int .u8 0, .int .u8 0, .int .u8 0, .int .u8 0, .int .u8 0] 5)) := by kernel_rfl
set_option maxRecDepth 100000 in
theorem rmark1 (w : World) : Calls Tryd.prog 65 #[.int .i64 1] w fun e w' => e = .returned (.int .i64 0) ∧ w = w' := mark_any 1 w (by simp [four])
set_option maxRecDepth 100000 in
theorem rmark2 (w : World) : Calls Tryd.prog 65 #[.int .i64 2] w fun e w' => e = .returned (.int .i64 64) ∧ w = w' := mark_any 2 w (by simp [four])
set_option maxRecDepth 100000 in
theorem rmark4 (w : World) : Calls Tryd.prog 65 #[.int .i64 4] w fun e w' => e = .returned (.int .i64 128) ∧ w = w' := mark_any 4 w (by simp [four])
set_option maxRecDepth 100000 in
theorem rmark8 (w : World) : Calls Tryd.prog 65 #[.int .i64 8] w fun e w' => e = .returned (.int .i64 192) ∧ w = w' := mark_any 8 w (by simp [four])

set_option maxRecDepth 100000 in
/-- A block of bytes, whole. -/
theorem byt_block {w : World} {g : Nat} {l : List Int} (hl : allByte l) (hn : l.length ≤ maxLen) (h : w.heap[g]? = some (.cells (l.map (Value.int .u8)).toArray 5 (0, 0))) : Byt w (some ⟨g, 0, none⟩) l.length l.length l :=
  ⟨rfl, Nat.le_refl _, hn, hl, (fun h => by cases h), fun _ => ⟨g, 0, rfl, (Array.getElem?_eq_some_iff.1 h).1, fun k hk => by
    rw [Nat.zero_add, cell_of_row w g k _ _ _ h]
    simp [nth, List.getD, hk]⟩⟩

set_option maxRecDepth 100000 in
theorem cells1 (x : Int) : (#[.int .u8 (x % 256 + 0)] : Array Value) = ((enc x 1).map (Value.int .u8)).toArray := by
  have e : enc x 1 = [x % 256 + 0] := by
    simp [enc, be, dig, place, List.range, List.range.loop] <;> omega
  rw [e]; rfl
set_option maxRecDepth 100000 in
theorem cells2 (x : Int) : (#[.int .u8 (x / 256 % 256 + 64), .int .u8 (x % 256)] : Array Value) = ((enc x 2).map (Value.int .u8)).toArray := by
  have e : enc x 2 = [x / 256 % 256 + 64, x % 256] := by
    simp [enc, be, dig, place, List.range, List.range.loop] <;> omega
  rw [e]; rfl
set_option maxRecDepth 100000 in
theorem cells4 (x : Int) : (#[.int .u8 (x / 256 / 256 / 256 % 256 + 128), .int .u8 (x / 256 / 256 % 256), .int .u8 (x / 256 % 256), .int .u8 (x % 256)] : Array Value) = ((enc x 4).map (Value.int .u8)).toArray := by
  have e : enc x 4 = [x / 256 / 256 / 256 % 256 + 128, x / 256 / 256 % 256, x / 256 % 256, x % 256] := by
    simp [enc, be, dig, place, List.range, List.range.loop] <;> omega
  rw [e]; rfl
set_option maxRecDepth 100000 in
theorem cells8 (x : Int) : (#[.int .u8 (x / 256 / 256 / 256 / 256 / 256 / 256 / 256 % 256 + 192), .int .u8 (x / 256 / 256 / 256 / 256 / 256 / 256 % 256), .int .u8 (x / 256 / 256 / 256 / 256 / 256 % 256), .int .u8 (x / 256 / 256 / 256 / 256 % 256), .int .u8 (x / 256 / 256 / 256 % 256), .int .u8 (x / 256 / 256 % 256), .int .u8 (x / 256 % 256), .int .u8 (x % 256)] : Array Value) = ((enc x 8).map (Value.int .u8)).toArray := by
  have e : enc x 8 = [x / 256 / 256 / 256 / 256 / 256 / 256 / 256 % 256 + 192, x / 256 / 256 / 256 / 256 / 256 / 256 % 256, x / 256 / 256 / 256 / 256 / 256 % 256, x / 256 / 256 / 256 / 256 % 256, x / 256 / 256 / 256 % 256, x / 256 / 256 % 256, x / 256 % 256, x % 256] := by
    simp [enc, be, dig, place, List.range, List.range.loop] <;> omega
  rw [e]; rfl

set_option maxRecDepth 100000 in
set_option maxHeartbeats 1000000 in
theorem rputIn_1 (A : Option Addr) (n c : Nat) (x : Int) (l : List Int) (w : World) (hb : Byt w A n c l) (hn : n ≤ 140737488355320) (h : size x ≠ 0) (h3 : size x ≤ 1) :
    Calls Tryd.prog 53 #[.slice A n c, .int .i64 x, .int .i64 1] w (Put2 (l ++ enc x 1) 0 w) := by
  have h0 : (size x == 0) = false := by simp [h]
  obtain ⟨hx0, hx1, hx2⟩ := size_le x 1 (by simp [four]) h h3
  have hx3 : x < 64 := by simpa using hx2
  have hby : Hid (allByte (enc x 1)) := Lib.hid (enc_bytes x 1 (by simp [four]) hx0 (by simpa using hx2))
  have HL := Lib.hid hb.len
  have hmk := rmake1
  have HCE := Lib.hid (cells1 x)
  clear h hx2
  go_enter Tryd.func53, Tryd.ntmps53
  go_wp2_with (go_at_call 54; ((with_reducible refine (rsize_any _ _).mono ?_); rintro e w' ⟨rfl, rfl⟩))
  refine wp_loop_rounds 2 ?_
  rw [rounds_succ]
  go_wp2
  rw [rounds_succ]
  go_wp2
  go_region_with (go_at_call 65; refine (rmark1 _).mono ?_; rintro e w' ⟨rfl, rfl⟩)
  all_goals
    go_wp2_with fail
    refine (copy_any A n c l _ (hb.kept (by first | exact (Kept.refl w).alloc _ | exact ((Kept.refl w).alloc _).drew | exact ((Kept.refl w).alloc _).drew.drew)) (by omega)).mono ?_
    rintro e w1 ⟨v, rfl, ho, hk⟩
    have hsz : w.heap.size + 1 ≤ w1.heap.size := by have := hk.size; simp at this; omega
    have ho' := ho.more (base' := w.heap.size) (by simp)
    have hB := byt_block (l := enc x 1) hby.out (by rw [enc_length]; simp [maxLen]) (((Below.block hk w.heap.size (by simp)).trans (heap_alloc_new w _)).trans (by rw [← HCE.out]))
    rw [enc_length] at hB
    have hlen : l.length + 1 ≤ 140737488355328 := by rw [HL.out]; omega
    have hK : Kept w w1 := Kept.trans (by first | exact (Kept.refl w).alloc _ | exact ((Kept.refl w).alloc _).drew | exact ((Kept.refl w).alloc _).drew.drew) hk
    clear ho
    go_wp2_with (at_builtin; refine wpList_app rfl (.tmp 61) (.tmp 62) rfl w.heap.size v l rfl ho' (some ⟨w.heap.size, 0, none⟩) 1 1 (enc x 1) rfl hB hlen (by omega) ?_; intro v' w2 ho2 hg2 hw2)
    go_ret2
    exact ⟨_, rfl, ho2, Below.grown hK hg2 hK.size (fun k hk' => (ho'.1.lt k hk').1)⟩

set_option maxRecDepth 100000 in
set_option maxHeartbeats 1000000 in
theorem rputIn_2 (A : Option Addr) (n c : Nat) (x : Int) (l : List Int) (w : World) (hb : Byt w A n c l) (hn : n ≤ 140737488355320) (h : size x ≠ 0) (h3 : size x ≤ 2) :
    Calls Tryd.prog 53 #[.slice A n c, .int .i64 x, .int .i64 2] w (Put2 (l ++ enc x 2) 0 w) := by
  have h0 : (size x == 0) = false := by simp [h]
  obtain ⟨hx0, hx1, hx2⟩ := size_le x 2 (by simp [four]) h h3
  have hx3 : x < 16384 := by simpa using hx2
  have hby : Hid (allByte (enc x 2)) := Lib.hid (enc_bytes x 2 (by simp [four]) hx0 (by simpa using hx2))
  have HL := Lib.hid hb.len
  have hmk := rmake2
  have HCE := Lib.hid (cells2 x)
  clear h hx2
  go_enter Tryd.func53, Tryd.ntmps53
  go_wp2_with (go_at_call 54; ((with_reducible refine (rsize_any _ _).mono ?_); rintro e w' ⟨rfl, rfl⟩))
  refine wp_loop_rounds 3 ?_
  rw [rounds_succ]
  go_wp2
  rw [rounds_succ]
  go_wp2
  rw [rounds_succ]
  go_wp2
  go_region_with (go_at_call 65; refine (rmark2 _).mono ?_; rintro e w' ⟨rfl, rfl⟩)
  all_goals
    go_wp2_with fail
    refine (copy_any A n c l _ (hb.kept (by first | exact (Kept.refl w).alloc _ | exact ((Kept.refl w).alloc _).drew | exact ((Kept.refl w).alloc _).drew.drew)) (by omega)).mono ?_
    rintro e w1 ⟨v, rfl, ho, hk⟩
    have hsz : w.heap.size + 1 ≤ w1.heap.size := by have := hk.size; simp at this; omega
    have ho' := ho.more (base' := w.heap.size) (by simp)
    have hB := byt_block (l := enc x 2) hby.out (by rw [enc_length]; simp [maxLen]) (((Below.block hk w.heap.size (by simp)).trans (heap_alloc_new w _)).trans (by rw [← HCE.out]))
    rw [enc_length] at hB
    have hlen : l.length + 2 ≤ 140737488355328 := by rw [HL.out]; omega
    have hK : Kept w w1 := Kept.trans (by first | exact (Kept.refl w).alloc _ | exact ((Kept.refl w).alloc _).drew | exact ((Kept.refl w).alloc _).drew.drew) hk
    clear ho
    go_wp2_with (at_builtin; refine wpList_app rfl (.tmp 61) (.tmp 62) rfl w.heap.size v l rfl ho' (some ⟨w.heap.size, 0, none⟩) 2 2 (enc x 2) rfl hB hlen (by omega) ?_; intro v' w2 ho2 hg2 hw2)
    go_ret2
    exact ⟨_, rfl, ho2, Below.grown hK hg2 hK.size (fun k hk' => (ho'.1.lt k hk').1)⟩

set_option maxRecDepth 100000 in
set_option maxHeartbeats 1000000 in
theorem rputIn_4 (A : Option Addr) (n c : Nat) (x : Int) (l : List Int) (w : World) (hb : Byt w A n c l) (hn : n ≤ 140737488355320) (h : size x ≠ 0) (h3 : size x ≤ 4) :
    Calls Tryd.prog 53 #[.slice A n c, .int .i64 x, .int .i64 4] w (Put2 (l ++ enc x 4) 0 w) := by
  have h0 : (size x == 0) = false := by simp [h]
  obtain ⟨hx0, hx1, hx2⟩ := size_le x 4 (by simp [four]) h h3
  have hx3 : x < 1073741824 := by simpa using hx2
  have hby : Hid (allByte (enc x 4)) := Lib.hid (enc_bytes x 4 (by simp [four]) hx0 (by simpa using hx2))
  have HL := Lib.hid hb.len
  have hmk := rmake4
  have HCE := Lib.hid (cells4 x)
  clear h hx2
  go_enter Tryd.func53, Tryd.ntmps53
  go_wp2_with (go_at_call 54; ((with_reducible refine (rsize_any _ _).mono ?_); rintro e w' ⟨rfl, rfl⟩))
  refine wp_loop_rounds 5 ?_
  rw [rounds_succ]
  go_wp2
  rw [rounds_succ]
  go_wp2
  rw [rounds_succ]
  go_wp2
  rw [rounds_succ]
  go_wp2
  rw [rounds_succ]
  go_wp2
  go_region_with (go_at_call 65; refine (rmark4 _).mono ?_; rintro e w' ⟨rfl, rfl⟩)
  all_goals
    go_wp2_with fail
    refine (copy_any A n c l _ (hb.kept (by first | exact (Kept.refl w).alloc _ | exact ((Kept.refl w).alloc _).drew | exact ((Kept.refl w).alloc _).drew.drew)) (by omega)).mono ?_
    rintro e w1 ⟨v, rfl, ho, hk⟩
    have hsz : w.heap.size + 1 ≤ w1.heap.size := by have := hk.size; simp at this; omega
    have ho' := ho.more (base' := w.heap.size) (by simp)
    have hB := byt_block (l := enc x 4) hby.out (by rw [enc_length]; simp [maxLen]) (((Below.block hk w.heap.size (by simp)).trans (heap_alloc_new w _)).trans (by rw [← HCE.out]))
    rw [enc_length] at hB
    have hlen : l.length + 4 ≤ 140737488355328 := by rw [HL.out]; omega
    have hK : Kept w w1 := Kept.trans (by first | exact (Kept.refl w).alloc _ | exact ((Kept.refl w).alloc _).drew | exact ((Kept.refl w).alloc _).drew.drew) hk
    clear ho
    go_wp2_with (at_builtin; refine wpList_app rfl (.tmp 61) (.tmp 62) rfl w.heap.size v l rfl ho' (some ⟨w.heap.size, 0, none⟩) 4 4 (enc x 4) rfl hB hlen (by omega) ?_; intro v' w2 ho2 hg2 hw2)
    go_ret2
    exact ⟨_, rfl, ho2, Below.grown hK hg2 hK.size (fun k hk' => (ho'.1.lt k hk').1)⟩

set_option maxRecDepth 100000 in
set_option maxHeartbeats 1000000 in
theorem rputIn_8 (A : Option Addr) (n c : Nat) (x : Int) (l : List Int) (w : World) (hb : Byt w A n c l) (hn : n ≤ 140737488355320) (h : size x ≠ 0) (h3 : size x ≤ 8) :
    Calls Tryd.prog 53 #[.slice A n c, .int .i64 x, .int .i64 8] w (Put2 (l ++ enc x 8) 0 w) := by
  have h0 : (size x == 0) = false := by simp [h]
  obtain ⟨hx0, hx1, hx2⟩ := size_le x 8 (by simp [four]) h h3
  have hx3 : x < 4611686018427387904 := by simpa using hx2
  have hby : Hid (allByte (enc x 8)) := Lib.hid (enc_bytes x 8 (by simp [four]) hx0 (by simpa using hx2))
  have HL := Lib.hid hb.len
  have hmk := rmake8
  have HCE := Lib.hid (cells8 x)
  clear h hx2
  go_enter Tryd.func53, Tryd.ntmps53
  go_wp2_with (go_at_call 54; ((with_reducible refine (rsize_any _ _).mono ?_); rintro e w' ⟨rfl, rfl⟩))
  refine wp_loop_rounds 9 ?_
  rw [rounds_succ]
  go_wp2
  rw [rounds_succ]
  go_wp2
  rw [rounds_succ]
  go_wp2
  rw [rounds_succ]
  go_wp2
  rw [rounds_succ]
  go_wp2
  rw [rounds_succ]
  go_wp2
  rw [rounds_succ]
  go_wp2
  rw [rounds_succ]
  go_wp2
  rw [rounds_succ]
  go_wp2
  go_region_with (go_at_call 65; refine (rmark8 _).mono ?_; rintro e w' ⟨rfl, rfl⟩)
  all_goals
    go_wp2_with fail
    refine (copy_any A n c l _ (hb.kept (by first | exact (Kept.refl w).alloc _ | exact ((Kept.refl w).alloc _).drew | exact ((Kept.refl w).alloc _).drew.drew)) (by omega)).mono ?_
    rintro e w1 ⟨v, rfl, ho, hk⟩
    have hsz : w.heap.size + 1 ≤ w1.heap.size := by have := hk.size; simp at this; omega
    have ho' := ho.more (base' := w.heap.size) (by simp)
    have hB := byt_block (l := enc x 8) hby.out (by rw [enc_length]; simp [maxLen]) (((Below.block hk w.heap.size (by simp)).trans (heap_alloc_new w _)).trans (by rw [← HCE.out]))
    rw [enc_length] at hB
    have hlen : l.length + 8 ≤ 140737488355328 := by rw [HL.out]; omega
    have hK : Kept w w1 := Kept.trans (by first | exact (Kept.refl w).alloc _ | exact ((Kept.refl w).alloc _).drew | exact ((Kept.refl w).alloc _).drew.drew) hk
    clear ho
    go_wp2_with (at_builtin; refine wpList_app rfl (.tmp 61) (.tmp 62) rfl w.heap.size v l rfl ho' (some ⟨w.heap.size, 0, none⟩) 8 8 (enc x 8) rfl hB hlen (by omega) ?_; intro v' w2 ho2 hg2 hw2)
    go_ret2
    exact ⟨_, rfl, ho2, Below.grown hK hg2 hK.size (fun k hk' => (ho'.1.lt k hk').1)⟩

set_option maxRecDepth 100000 in
theorem rputIn_any (A : Option Addr) (n c : Nat) (x s : Int) (l : List Int) (w : World) (hb : Byt w A n c l) (hn : n ≤ 140737488355320) :
    Calls Tryd.prog 53 #[.slice A n c, .int .i64 x, .int .i64 s] w (Put2 (putOut l x s) (putErr x s) w) := by
  by_cases h : size x = 0
  · rw [putOut_not l x s (by rw [putErr_range x s h]; decide), putErr_range x s h]
    exact rputIn_range A n c x s w h
  · by_cases h1 : four s ∧ size x ≤ s
    · rw [putOut_ok l x s (putErr_ok x s h h1), putErr_ok x s h h1]
      obtain ⟨h2, h3⟩ := h1
      rcases h2 with rfl | rfl | rfl | rfl
      · exact rputIn_1 A n c x l w hb hn h h3
      · exact rputIn_2 A n c x l w hb hn h h3
      · exact rputIn_4 A n c x l w hb hn h h3
      · exact rputIn_8 A n c x l w hb hn h h3
    · rw [putOut_not l x s (by rw [putErr_arg x s h h1]; decide), putErr_arg x s h h1]
      exact rputIn_arg A n c x s w h h1

set_option maxRecDepth 100000 in
theorem put_max (l : List Int) (x : Int) (h : size x ≤ 1) : putOut l x 1 = putOut l x (size x) ∧ putErr x 1 = putErr x (size x) := by
  rcases size_cases x with h | h | h | h | h
  · rw [putErr_range x _ h, putErr_range x _ h, putOut_not l x _ (by rw [putErr_range x _ h]; decide), putOut_not l x _ (by rw [putErr_range x _ h]; decide)]; exact ⟨rfl, rfl⟩
  · rw [h]; exact ⟨rfl, rfl⟩
  all_goals omega

set_option maxRecDepth 100000 in
set_option maxHeartbeats 400000 in
theorem rput_any (A : Option Addr) (n c : Nat) (x : Int) (l : List Int) (w : World) (hb : Byt w A n c l) (hn : n ≤ 140737488355320) :
    Calls Tryd.prog 37 #[.slice A n c, .int .i64 x] w (Put2 (putOut l x (size x)) (putErr x (size x)) w) := by
  by_cases h : 1 < size x
  · have hd : decide (1 < size x) = true := by simpa using h
    go_enter Tryd.func37, Tryd.ntmps37
    go_wp2_with (first | (go_at_call 54; ((with_reducible refine (rsize_any _ _).mono ?_); rintro e w' ⟨rfl, rfl⟩)) | (go_at_call 53; ((refine (rputIn_any A n c x (size x) l _ hb hn).mono ?_); rintro e w' ⟨v, rfl, ho, hk⟩)))
    go_ret2
    exact ⟨v, rfl, ho, hk⟩
  · have HM := Lib.hid (put_max l x (by omega))
    have hd : decide (1 < size x) = false := by simpa using h
    go_enter Tryd.func37, Tryd.ntmps37
    go_wp2_with (first | (go_at_call 54; ((with_reducible refine (rsize_any _ _).mono ?_); rintro e w' ⟨rfl, rfl⟩)) | (go_at_call 53; ((refine (rputIn_any A n c x 1 l _ hb hn).mono ?_); rintro e w' ⟨v, rfl, ho, hk⟩)))
    go_ret2
    refine ⟨v, ?_, by rw [← HM.out.1]; exact ho, hk⟩
    rw [← HM.out.2]; rfl

end Go.Proofs.YteleagklgnedaaaDoor.Oct
