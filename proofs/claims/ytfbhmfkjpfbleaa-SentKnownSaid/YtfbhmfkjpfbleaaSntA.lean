/-
  Contracts of a log that is none: nil, or a zero one.
-/
import Derived.Test.YtfbhmfkjpfbleaaSntI
namespace Go.Proofs.Ytfbhmfkjpfbleaa.Snt
open Go.RowKit SntM Cd Wd
set_option linter.unusedVariables false
set_option linter.unusedSimpArgs false

/-- There is no log there. -/
def Abs (w : World) (v : Value) : Prop := ∀ W, Kept w W → Calls Try.prog 33 #[v] W fun e w' => e = .returned (.bool true) ∧ W = w'
theorem abs_nil (w : World) : Abs w (.pointer none) := fun W _ => absent_nil W
theorem abs_zero {w : World} {p : Nat} (h : w.cell? ⟨p, 0, none⟩ = some (.slice none 0 0)) : Abs w (.pointer (some ⟨p, 0, none⟩)) := fun W k => absent_zero p W (k.cell h)
theorem Abs.kept {w w' : World} {v : Value} (h : Abs w v) (k : Kept w w') : Abs w' v := fun W k' => h W (k.trans k')

section
variable {w : World} {v : Value}
theorem last0 (h : Abs w v) : Calls Try.prog 30 #[v] w fun e w' => e = .returned (.int .i64 (-1)) ∧ w = w' := by
  have ha := Lib.hid (h w (Kept.refl w))
  clear h
  go_enter Try.func30, Try.ntmps30
  go_wp2_with fail
  refine ha.out.mono ?_
  rintro e w' ⟨rfl, rfl⟩
  go_wp2_with fail
  go_ret
  exact ⟨rfl, rfl⟩
theorem len0 (h : Abs w v) : Calls Try.prog 28 #[v] w fun e w' => e = .returned (.int .i64 0) ∧ w = w' := by
  have ha := Lib.hid (h w (Kept.refl w))
  clear h
  go_enter Try.func28, Try.ntmps28
  go_wp2_with fail
  refine ha.out.mono ?_
  rintro e w' ⟨rfl, rfl⟩
  go_wp2_with fail
  go_ret
  exact ⟨rfl, rfl⟩
theorem flight0 (h : Abs w v) : Calls Try.prog 26 #[v] w fun e w' => e = .returned (.int .i64 0) ∧ w = w' := by
  have ha := Lib.hid (h w (Kept.refl w))
  clear h
  go_enter Try.func26, Try.ntmps26
  go_wp2_with fail
  refine ha.out.mono ?_
  rintro e w' ⟨rfl, rfl⟩
  go_wp2_with fail
  go_ret
  exact ⟨rfl, rfl⟩
theorem eliciting0 (h : Abs w v) : Calls Try.prog 27 #[v] w fun e w' => e = .returned (.int .i64 0) ∧ w = w' := by
  have ha := Lib.hid (h w (Kept.refl w))
  clear h
  go_enter Try.func27, Try.ntmps27
  go_wp2_with fail
  refine ha.out.mono ?_
  rintro e w' ⟨rfl, rfl⟩
  go_wp2_with fail
  go_ret
  exact ⟨rfl, rfl⟩
theorem copy0 (h : Abs w v) : Calls Try.prog 17 #[v] w fun e w' => e = .returned (.pointer none) ∧ w = w' := by
  have ha := Lib.hid (h w (Kept.refl w))
  clear h
  go_enter Try.func17, Try.ntmps17
  go_wp2_with fail
  refine ha.out.mono ?_
  rintro e w' ⟨rfl, rfl⟩
  go_wp2_with fail
  go_ret
  exact ⟨rfl, rfl⟩
theorem clear0 (h : Abs w v) : Calls Try.prog 18 #[v] w (Unit_ fun w' => w' = w) := by
  have ha := Lib.hid (h w (Kept.refl w))
  clear h
  go_enter Try.func18, Try.ntmps18
  go_wp2_with fail
  refine ha.out.mono ?_
  rintro e w' ⟨rfl, rfl⟩
  go_wp2_with fail
  first
    | (go_end0; exact ⟨rfl, rfl⟩)
    | exact bodyPost_ret (results_none rfl _ _ _) rfl ⟨rfl, rfl⟩
set_option maxRecDepth 100000 in
theorem put0 (h : Abs w v) (q : Pk) : Calls Try.prog 12 #[v, pkV q] w (GInt 1 w) := by
  have hk := (Kept.refl w).alloc (.cells #[.int .i64 q.n, .int .i64 q.t, .int .i64 q.s, .bool q.e, .bool q.f, .bool q.c] 31)
  have ha := Lib.hid (h _ hk)
  have HK := Lib.hid hk
  clear h hk
  go_enter Try.func12, Try.ntmps12
  go_wp2_with fail
  refine ha.out.mono ?_
  rintro e w' ⟨rfl, rfl⟩
  go_wp2_with fail
  go_ret
  exact ⟨rfl, HK.out⟩
set_option maxRecDepth 100000 in
theorem find0 (h : Abs w v) (n : Int) : Calls Try.prog 41 #[v, .int .i64 n] w (GInt (-1) w) := by
  have hk := (Kept.refl w).alloc (.cells #[.int .i64 n] 3)
  have ha := Lib.hid (h _ hk)
  have HK := Lib.hid hk
  clear h hk
  go_enter Try.func41, Try.ntmps41
  go_wp2_with fail
  refine ha.out.mono ?_
  rintro e w' ⟨rfl, rfl⟩
  go_wp2_with fail
  go_ret
  exact ⟨rfl, HK.out⟩
set_option maxRecDepth 100000 in
theorem between0 (h : Abs w v) (lo hi : Int) : Calls Try.prog 22 #[v, .int .i64 lo, .int .i64 hi] w fun e w' => e = .returned (.slice none 0 0) ∧ Kept w w' := by
  have hk := ((Kept.refl w).alloc (.cells #[.int .i64 lo] 3)).alloc (.cells #[.int .i64 hi] 3)
  have ha := Lib.hid (h _ hk)
  have HK := Lib.hid hk
  clear h hk
  go_enter Try.func22, Try.ntmps22
  go_wp2_with fail
  refine ha.out.mono ?_
  rintro e w' ⟨rfl, rfl⟩
  go_wp2_with fail
  go_ret
  exact ⟨rfl, HK.out⟩
set_option maxRecDepth 100000 in
theorem all0 (h : Abs w v) : Calls Try.prog 29 #[v] w fun e w' => e = .returned (.slice none 0 0) ∧ Kept w w' := by
  have hb := Lib.hid (between0 h 0 9007199254740991)
  clear h
  go_enter Try.func29, Try.ntmps29
  go_wp2_with fail
  refine hb.out.mono ?_
  rintro e w' ⟨rfl, k⟩
  go_wp2_with fail
  go_ret
  exact ⟨rfl, k⟩
set_option maxRecDepth 100000 in
theorem get0 (h : Abs w v) (n : Int) : Calls Try.prog 25 #[v, .int .i64 n] w (GPk zero false w) := by
  obtain ⟨W, hW⟩ : ∃ W, w.alloc (.cells #[.int .i64 0, .int .i64 0, .int .i64 0, .bool false, .bool false, .bool false] 31) = W := ⟨_, rfl⟩
  have hk : Kept w W := by rw [← hW]; exact (Kept.refl w).alloc _
  have bR : Blk W w.heap.size 31 #[.int .i64 0, .int .i64 0, .int .i64 0, .bool false, .bool false, .bool false] := by rw [← hW]; exact Blk.new _ _ _
  have hfi := find0 (h.kept hk) n
  have HW := Lib.hid hW
  have HK := Lib.hid hk
  have HB := Lib.hid bR
  clear h hW hk bR
  go_enter Try.func25, Try.ntmps25
  go_wp2_with fail
  rw [HW.out]
  refine hfi.mono ?_
  rintro e w1 ⟨rfl, hk1⟩
  have HB1 := Lib.hid (HB.out.kept hk1)
  have b0 := HB1.out.cell 0
  have b1 := HB1.out.cell 1
  have b2 := HB1.out.cell 2
  have b3 := HB1.out.cell 3
  have b4 := HB1.out.cell 4
  have b5 := HB1.out.cell 5
  have f0 := HB1.out.frozen 0
  have f1 := HB1.out.frozen 1
  have f2 := HB1.out.frozen 2
  have f3 := HB1.out.frozen 3
  have f4 := HB1.out.frozen 4
  have f5 := HB1.out.frozen 5
  have hl := HB1.out.lt
  have HK1 : Hid (Kept w w1) := HK.out.trans hk1
  clear hk1
  go_wp2_with fail
  refine bodyPost_ret (v := .tuple #[pkV zero, .bool false]) (by simp [results, Try.f25, go_sem, b0, b1, b2, b3, b4, b5, zero, gap]) rfl ⟨rfl, ?_⟩
  repeat (refine Kept.setCell ?_ (Nat.le_refl _) _)
  exact HK1.out
set_option maxRecDepth 100000 in
theorem drop0 (h : Abs w v) (n : Int) : Calls Try.prog 14 #[v, .int .i64 n] w (GPk zero false w) := by
  obtain ⟨W, hW⟩ : ∃ W, w.alloc (.cells #[.int .i64 0, .int .i64 0, .int .i64 0, .bool false, .bool false, .bool false] 31) = W := ⟨_, rfl⟩
  have hk : Kept w W := by rw [← hW]; exact (Kept.refl w).alloc _
  have bR : Blk W w.heap.size 31 #[.int .i64 0, .int .i64 0, .int .i64 0, .bool false, .bool false, .bool false] := by rw [← hW]; exact Blk.new _ _ _
  have hfi := find0 (h.kept hk) n
  have HW := Lib.hid hW
  have HK := Lib.hid hk
  have HB := Lib.hid bR
  clear h hW hk bR
  go_enter Try.func14, Try.ntmps14
  go_wp2_with fail
  rw [HW.out]
  refine hfi.mono ?_
  rintro e w1 ⟨rfl, hk1⟩
  have HB1 := Lib.hid (HB.out.kept hk1)
  have b0 := HB1.out.cell 0
  have b1 := HB1.out.cell 1
  have b2 := HB1.out.cell 2
  have b3 := HB1.out.cell 3
  have b4 := HB1.out.cell 4
  have b5 := HB1.out.cell 5
  have f0 := HB1.out.frozen 0
  have f1 := HB1.out.frozen 1
  have f2 := HB1.out.frozen 2
  have f3 := HB1.out.frozen 3
  have f4 := HB1.out.frozen 4
  have f5 := HB1.out.frozen 5
  have hl := HB1.out.lt
  have HK1 : Hid (Kept w w1) := HK.out.trans hk1
  clear hk1
  go_wp2_with fail
  refine bodyPost_ret (v := .tuple #[pkV zero, .bool false]) (by simp [results, Try.f14, go_sem, b0, b1, b2, b3, b4, b5, zero, gap]) rfl ⟨rfl, ?_⟩
  repeat (refine Kept.setCell ?_ (Nat.le_refl _) _)
  exact HK1.out
set_option maxRecDepth 100000 in
theorem oldest0 (h : Abs w v) : Calls Try.prog 32 #[v] w (GPk zero false w) := by
  obtain ⟨W, hW⟩ : ∃ W, w.alloc (.cells #[.int .i64 0, .int .i64 0, .int .i64 0, .bool false, .bool false, .bool false] 31) = W := ⟨_, rfl⟩
  have hk : Kept w W := by rw [← hW]; exact (Kept.refl w).alloc _
  have bR : Blk W w.heap.size 31 #[.int .i64 0, .int .i64 0, .int .i64 0, .bool false, .bool false, .bool false] := by rw [← hW]; exact Blk.new _ _ _
  have hfi := len0 (h.kept hk)
  have HW := Lib.hid hW
  have HK := Lib.hid hk
  have HB := Lib.hid bR
  clear h hW hk bR
  go_enter Try.func32, Try.ntmps32
  go_wp2_with fail
  rw [HW.out]
  refine hfi.mono ?_
  rintro e w1 ⟨rfl, hk1⟩
  have hk1 : Kept W w1 := hk1 ▸ Kept.refl W
  have HB1 := Lib.hid (HB.out.kept hk1)
  have b0 := HB1.out.cell 0
  have b1 := HB1.out.cell 1
  have b2 := HB1.out.cell 2
  have b3 := HB1.out.cell 3
  have b4 := HB1.out.cell 4
  have b5 := HB1.out.cell 5
  have f0 := HB1.out.frozen 0
  have f1 := HB1.out.frozen 1
  have f2 := HB1.out.frozen 2
  have f3 := HB1.out.frozen 3
  have f4 := HB1.out.frozen 4
  have f5 := HB1.out.frozen 5
  have hl := HB1.out.lt
  have HK1 : Hid (Kept w w1) := HK.out.trans hk1
  clear hk1
  go_wp2_with fail
  refine bodyPost_ret (v := .tuple #[pkV zero, .bool false]) (by simp [results, Try.f32, go_sem, b0, b1, b2, b3, b4, b5, zero, gap]) rfl ⟨rfl, ?_⟩
  repeat (refine Kept.setCell ?_ (Nat.le_refl _) _)
  exact HK1.out
end

end Go.Proofs.Ytfbhmfkjpfbleaa.Snt
