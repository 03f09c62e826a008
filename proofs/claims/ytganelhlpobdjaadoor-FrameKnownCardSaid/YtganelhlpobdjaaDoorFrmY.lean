/-
  works: the chapter's own numbers.
-/
import Derived.Test.YtganelhlpobdjaaDoorFrmX
import Derived.Deep.RegionHeld3
namespace Go.Proofs.YtganelhlpobdjaaDoor.Frm
open Go.RowKit SpnM Spn FrmM OctM Oct
set_option linter.unusedVariables false
set_option linter.unusedSimpArgs false

/-- The second numbers of the chapter, in a box. -/
def Boxes (w W : World) (b0 r0 : Nat) : Prop := Wd.Kept w W ∧ Wd.Blk W b0 25 #[.int .i64 100, .slice (some ⟨r0, 0, none⟩) 2 2, .bool true, .int .i64 1, .int .i64 0, .int .i64 2] ∧ Row W (some ⟨r0, 0, none⟩) 2 2 [(70, 80), (60, 60)]
theorem Boxes.kept {w W W' : World} {b0 r0 : Nat} (h : Boxes w W b0 r0) (k : Wd.Kept W W') : Boxes w W' b0 r0 := ⟨h.1.trans k, h.2.1.kept k, h.2.2.kept k⟩

/-- What is loaded at the end. -/
structure Fin (w : World) (g6 g11 : Nat) (C1 : Option Addr) (d1 : Nat) (C7 : Option Addr) (d7 : Nat) (W : World) : Prop where
  bx : Boxes w W (w.heap.size + 1) w.heap.size
  p6 : Wd.Blk W g6 25 #[.int .i64 0, .slice C1 1 d1, .bool false, .int .i64 0, .int .i64 0, .int .i64 0]
  p11 : Wd.Blk W g11 25 #[.int .i64 100, .slice C7 2 d7, .bool true, .int .i64 1, .int .i64 0, .int .i64 2]
  r6 : Row W C1 1 d1 [(5, 5)]
  r11 : Row W C7 2 d7 [(70, 80), (60, 60)]
section
variable {w : World} {g6 g11 : Nat} {C1 C7 : Option Addr} {d1 d7 : Nat} {W W' : World}
theorem Fin.kept (h : Fin w g6 g11 C1 d1 C7 d7 W) (k : Wd.Kept W W') : Fin w g6 g11 C1 d1 C7 d7 W' := ⟨h.bx.kept k, h.p6.kept k, h.p11.kept k, h.r6.kept k, h.r11.kept k⟩
theorem Fin.cells (h : Fin w g6 g11 C1 d1 C7 d7 W) : W.cell? ⟨g6, 0, none⟩ = some (.int .i64 0) ∧ W.cell? ⟨g6, 1, none⟩ = some (.slice C1 1 d1) ∧ W.cell? ⟨g6, 2, none⟩ = some (.bool false) ∧ W.cell? ⟨g6, 3, none⟩ = some (.int .i64 0) ∧ W.cell? ⟨g6, 4, none⟩ = some (.int .i64 0) ∧ W.cell? ⟨g6, 5, none⟩ = some (.int .i64 0) ∧ W.cell? ⟨g11, 0, none⟩ = some (.int .i64 100) ∧ W.cell? ⟨g11, 1, none⟩ = some (.slice C7 2 d7) ∧ W.cell? ⟨g11, 2, none⟩ = some (.bool true) ∧ W.cell? ⟨g11, 3, none⟩ = some (.int .i64 1) ∧ W.cell? ⟨g11, 4, none⟩ = some (.int .i64 0) ∧ W.cell? ⟨g11, 5, none⟩ = some (.int .i64 2) ∧ W.cell? ⟨w.heap.size + 1, 0, none⟩ = some (.int .i64 100) ∧ W.cell? ⟨w.heap.size + 1, 1, none⟩ = some (.slice (some ⟨w.heap.size, 0, none⟩) 2 2) ∧ W.cell? ⟨w.heap.size + 1, 2, none⟩ = some (.bool true) ∧ W.cell? ⟨w.heap.size + 1, 3, none⟩ = some (.int .i64 1) ∧ W.cell? ⟨w.heap.size + 1, 4, none⟩ = some (.int .i64 0) ∧ W.cell? ⟨w.heap.size + 1, 5, none⟩ = some (.int .i64 2) :=
  ⟨h.p6.cell 0, h.p6.cell 1, h.p6.cell 2, h.p6.cell 3, h.p6.cell 4, h.p6.cell 5, h.p11.cell 0, h.p11.cell 1, h.p11.cell 2, h.p11.cell 3, h.p11.cell 4, h.p11.cell 5, h.bx.2.1.cell 0, h.bx.2.1.cell 1, h.bx.2.1.cell 2, h.bx.2.1.cell 3, h.bx.2.1.cell 4, h.bx.2.1.cell 5⟩
theorem one_held {p : Nat} (hp : W.heap.size = p) (h : Fin w g6 g11 C1 d1 C7 d7 W) : Calls Tryd.prog 42 #[.slice (some ⟨p, 0, none⟩) 1 1] (W.alloc (.cells #[.int .i64 5, .int .i64 5] 36)) fun e w' =>
    e = .returned (.agg #[.int .i64 0, .slice (some ⟨p, 0, none⟩) 1 1, .bool false, .int .i64 0, .int .i64 0, .int .i64 0]) ∧ Fin w g6 g11 C1 d1 C7 d7 w' ∧ Row w' (some ⟨p, 0, none⟩) 1 1 [(5, 5)] := by
  subst hp
  exact (one_any _ _ _ _).mono fun e w' q => ⟨q.1, (h.kept ((Wd.Kept.refl W).alloc _)).kept q.2, Row.kept (show Row (W.alloc (.cells #[.int .i64 5, .int .i64 5] 36)) (some ⟨W.heap.size, 0, none⟩) 1 1 [(5, 5)] from row_lit W [(5, 5)] (by decide)) q.2⟩
theorem same_held1 {p : Nat} (h : Fin w g6 g11 C1 d1 C7 d7 W) (r : Row W (some ⟨p, 0, none⟩) 1 1 [(5, 5)]) : Calls Tryd.prog 18 #[.agg #[.int .i64 0, .slice C1 1 d1, .bool false, .int .i64 0, .int .i64 0, .int .i64 0], .agg #[.int .i64 0, .slice (some ⟨p, 0, none⟩) 1 1, .bool false, .int .i64 0, .int .i64 0, .int .i64 0]] W fun e w' => e = .returned (.bool true) ∧ Fin w g6 g11 C1 d1 C7 d7 w' :=
  (same_any C1 (some ⟨p, 0, none⟩) 1 d1 1 1 one5 one5 W h.r6 r).mono fun e w' q => ⟨by rw [q.1, sameA_self], h.kept q.2⟩
theorem same_held2 (h : Fin w g6 g11 C1 d1 C7 d7 W) : Calls Tryd.prog 18 #[.agg #[.int .i64 100, .slice C7 2 d7, .bool true, .int .i64 1, .int .i64 0, .int .i64 2], .agg #[.int .i64 100, .slice (some ⟨w.heap.size, 0, none⟩) 2 2, .bool true, .int .i64 1, .int .i64 0, .int .i64 2]] W fun e w' => e = .returned (.bool true) ∧ Fin w g6 g11 C1 d1 C7 d7 w' :=
  (same_any C7 (some ⟨w.heap.size, 0, none⟩) 2 d7 2 2 two2 two2 W h.r11 h.bx.2.2).mono fun e w' q => ⟨by rw [q.1, sameA_self], h.kept q.2⟩
end

set_option maxRecDepth 100000 in
set_option maxHeartbeats 8000000 in
theorem works_any (w : World) (hT : Tab w) : Calls Tryd.prog 23 #[] w fun e w' => e = .returned (.bool true) ∧ Wd.Kept w w' := by
  have HT := Lib.hid hT
  clear hT
  go_enter Tryd.func23, Tryd.ntmps23
  go_wp2_with fail
  have k1 := (Wd.Kept.refl w).alloc (.cells #[.int .i64 70, .int .i64 80, .int .i64 60, .int .i64 60] 36)
  have r1 : Row (w.alloc (.cells #[.int .i64 70, .int .i64 80, .int .i64 60, .int .i64 60] 36)) (some ⟨w.heap.size, 0, none⟩) 2 2 [(70, 80), (60, 60)] := row_lit w [(70, 80), (60, 60)] (by decide)
  have k2 := (Wd.Kept.refl (w.alloc (.cells #[.int .i64 70, .int .i64 80, .int .i64 60, .int .i64 60] 36))).alloc (.cells #[.int .i64 100, .slice (some ⟨w.heap.size, 0, none⟩) 2 2, .bool true, .int .i64 1, .int .i64 0, .int .i64 2] 25)
  have b2 : Wd.Blk ((w.alloc (.cells #[.int .i64 70, .int .i64 80, .int .i64 60, .int .i64 60] 36)).alloc (.cells #[.int .i64 100, .slice (some ⟨w.heap.size, 0, none⟩) 2 2, .bool true, .int .i64 1, .int .i64 0, .int .i64 2] 25)) (w.heap.size + 1) 25 #[.int .i64 100, .slice (some ⟨w.heap.size, 0, none⟩) 2 2, .bool true, .int .i64 1, .int .i64 0, .int .i64 2] := by have := Wd.Blk.new (w.alloc (.cells #[.int .i64 70, .int .i64 80, .int .i64 60, .int .i64 60] 36)) 25 #[.int .i64 100, .slice (some ⟨w.heap.size, 0, none⟩) 2 2, .bool true, .int .i64 1, .int .i64 0, .int .i64 2]; rwa [World.size_alloc] at this
  have X2 : Boxes w ((w.alloc (.cells #[.int .i64 70, .int .i64 80, .int .i64 60, .int .i64 60] 36)).alloc (.cells #[.int .i64 100, .slice (some ⟨w.heap.size, 0, none⟩) 2 2, .bool true, .int .i64 1, .int .i64 0, .int .i64 2] 25)) (w.heap.size + 1) w.heap.size := ⟨k1.trans k2, b2, r1.kept k2⟩
  have s2 : ((w.alloc (.cells #[.int .i64 70, .int .i64 80, .int .i64 60, .int .i64 60] 36)).alloc (.cells #[.int .i64 100, .slice (some ⟨w.heap.size, 0, none⟩) 2 2, .bool true, .int .i64 1, .int .i64 0, .int .i64 2] 25)).heap.size = w.heap.size + 1 + 1 := by simp
  clear k1 r1 k2 b2
  generalize (w.alloc (.cells #[.int .i64 70, .int .i64 80, .int .i64 60, .int .i64 60] 36)).alloc (.cells #[.int .i64 100, .slice (some ⟨w.heap.size, 0, none⟩) 2 2, .bool true, .int .i64 1, .int .i64 0, .int .i64 2] 25) = W2 at *
  have l3 : Row (W2.alloc (.cells #[.int .i64 5, .int .i64 5] 36)) (some ⟨W2.heap.size, 0, none⟩) 1 1 [(5, 5)] := row_lit W2 [(5, 5)] (by decide)
  rw [s2] at l3
  have X3 := X2.kept ((Wd.Kept.refl W2).alloc (.cells #[.int .i64 5, .int .i64 5] 36))
  generalize W2.alloc (.cells #[.int .i64 5, .int .i64 5] 36) = W3 at *
  have L3 := Lib.hid l3
  have X3 := Lib.hid X3
  clear l3 X2 s2
  refine (one_any _ _ _ _).mono ?_
  rintro e W4 ⟨rfl, k4⟩
  have L4 := Lib.hid (L3.out.kept k4)
  have X4 := Lib.hid (X3.out.kept k4)
  have hby := Lib.hid (bytes_any _ 1 1 one5 W4 (Rgs.of_row L4.out) L4.out.lt (HT.out.kept X4.out.1))
  clear k4 X3 L3
  go_wp2_with fail
  refine hby.out.mono ?_
  rintro e W5 ⟨v5, rfl, o5, k5⟩
  rw [check_one5]
  rw [bytes_one5] at o5
  obtain ⟨A5, c5, rfl, y5, -⟩ := o5.byt
  have X5 := Lib.hid (X4.out.kept k5)
  have Y5 := Lib.hid y5
  have q0 := X5.out.2.1.cell 0
  have q1 := X5.out.2.1.cell 1
  have q2 := X5.out.2.1.cell 2
  have q3 := X5.out.2.1.cell 3
  have q4 := X5.out.2.1.cell 4
  have q5 := X5.out.2.1.cell 5
  have hby2 := Lib.hid (bytes_any _ 2 2 two2 W5 (Rgs.of_row X5.out.2.2) X5.out.2.2.lt (HT.out.kept X5.out.1))
  clear k5 o5 y5 X4 L4 hby
  go_wp2_with fail
  refine hby2.out.mono ?_
  rintro e W6 ⟨v6, rfl, o6, k6⟩
  rw [check_two2]
  rw [bytes_two2] at o6
  obtain ⟨A6, c6, rfl, y6, -⟩ := o6.byt
  have X6 := Lib.hid (X5.out.kept k6)
  have Y6 := Lib.hid (y6.kept (Oct.Kept.refl W6))
  have Y5 := Lib.hid (Y5.out.kept k6)
  clear k6 o6 y6 X5 hby2 q0 q1 q2 q3 q4 q5
  have b6 : Byt (W6.alloc (.cells #[.int .u8 2, .int .u8 5, .int .u8 0, .int .u8 0, .int .u8 0] 5)) (some ⟨W6.heap.size, 0, none⟩) 5 5 [2, 5, 0, 0, 0] := byt_lit W6 [2, 5, 0, 0, 0] (by decide) (all8_of (by decide))
  have kk6 : Wd.Kept W6 (W6.alloc (.cells #[.int .u8 2, .int .u8 5, .int .u8 0, .int .u8 0, .int .u8 0] 5)) := (Wd.Kept.refl W6).alloc _
  have heq := Lib.hid (eq_any _ _ _ _ _ _ [2, 5, 0, 0, 0] [2, 5, 0, 0, 0] _ (Y5.out.kept kk6) b6)
  have X7 := Lib.hid (X6.out.kept kk6)
  have Y5 := Lib.hid (Y5.out.kept kk6)
  have Y6 := Lib.hid (Y6.out.kept kk6)
  clear b6 kk6 X6
  go_wp2_with fail
  generalize W6.alloc (.cells #[.int .u8 2, .int .u8 5, .int .u8 0, .int .u8 0, .int .u8 0] 5) = W7 at *
  refine heq.out.mono ?_
  rintro e w' ⟨rfl, rfl⟩
  rw [Oct.same_self]
  clear heq
  have b7 : Byt (W7.alloc (.cells #[.int .u8 3, .int .u8 64, .int .u8 80, .int .u8 64, .int .u8 100, .int .u8 1, .int .u8 10, .int .u8 8, .int .u8 0, .int .u8 1, .int .u8 0, .int .u8 2] 5)) (some ⟨W7.heap.size, 0, none⟩) 12 12 [3, 64, 80, 64, 100, 1, 10, 8, 0, 1, 0, 2] := byt_lit W7 [3, 64, 80, 64, 100, 1, 10, 8, 0, 1, 0, 2] (by decide) (all8_of (by decide))
  have kk7 : Wd.Kept W7 (W7.alloc (.cells #[.int .u8 3, .int .u8 64, .int .u8 80, .int .u8 64, .int .u8 100, .int .u8 1, .int .u8 10, .int .u8 8, .int .u8 0, .int .u8 1, .int .u8 0, .int .u8 2] 5)) := (Wd.Kept.refl W7).alloc _
  have heq := Lib.hid (eq_any _ _ _ _ _ _ [3, 64, 80, 64, 100, 1, 10, 8, 0, 1, 0, 2] [3, 64, 80, 64, 100, 1, 10, 8, 0, 1, 0, 2] _ (Y6.out.kept kk7) b7)
  have X8 := Lib.hid (X7.out.kept kk7)
  have Y5 := Lib.hid (Y5.out.kept kk7)
  have Y6 := Lib.hid (Y6.out.kept kk7)
  clear b7 kk7 X7
  go_wp2_with fail
  generalize W7.alloc (.cells #[.int .u8 3, .int .u8 64, .int .u8 80, .int .u8 64, .int .u8 100, .int .u8 1, .int .u8 10, .int .u8 8, .int .u8 0, .int .u8 1, .int .u8 0, .int .u8 2] 5) = W8 at *
  refine heq.out.mono ?_
  rintro e w' ⟨rfl, rfl⟩
  rw [Oct.same_self]
  clear heq
  clear Y5
  have b8 : Byt (W8.alloc (.cells #[.int .u8 2, .int .u8 5, .int .u8 0, .int .u8 0, .int .u8 6] 5)) (some ⟨W8.heap.size, 0, none⟩) 5 5 [2, 5, 0, 0, 6] := byt_lit W8 [2, 5, 0, 0, 6] (by decide) (all8_of (by decide))
  have kk8 : Wd.Kept W8 (W8.alloc (.cells #[.int .u8 2, .int .u8 5, .int .u8 0, .int .u8 0, .int .u8 6] 5)) := (Wd.Kept.refl W8).alloc _
  have hf := Lib.hid (fails_any 50 _ 5 5 [2, 5, 0, 0, 6] _ (HT.out.kept (X8.out.1.trans kk8)) b8 (by decide) next_lit1)
  have XX := Lib.hid (X8.out.kept kk8)
  have YY := Lib.hid (Y6.out.kept kk8)
  clear b8 kk8 X8
  go_wp2_with fail
  generalize W8.alloc (.cells #[.int .u8 2, .int .u8 5, .int .u8 0, .int .u8 0, .int .u8 6] 5) = V at *
  refine hf.out.mono ?_
  rintro e W9 ⟨rfl, k8⟩
  have X9 := Lib.hid (XX.out.kept k8)
  have Y6 := Lib.hid (YY.out.kept k8)
  clear k8 XX YY hf
  have b9 : Byt (W9.alloc (.cells #[.int .u8 2, .int .u8 5, .int .u8 0, .int .u8 1, .int .u8 5, .int .u8 0, .int .u8 0] 5)) (some ⟨W9.heap.size, 0, none⟩) 7 7 [2, 5, 0, 1, 5, 0, 0] := byt_lit W9 [2, 5, 0, 1, 5, 0, 0] (by decide) (all8_of (by decide))
  have kk9 : Wd.Kept W9 (W9.alloc (.cells #[.int .u8 2, .int .u8 5, .int .u8 0, .int .u8 1, .int .u8 5, .int .u8 0, .int .u8 0] 5)) := (Wd.Kept.refl W9).alloc _
  have hf := Lib.hid (fails_any 50 _ 7 7 [2, 5, 0, 1, 5, 0, 0] _ (HT.out.kept (X9.out.1.trans kk9)) b9 (by decide) next_lit2)
  have XX := Lib.hid (X9.out.kept kk9)
  have YY := Lib.hid (Y6.out.kept kk9)
  clear b9 kk9 X9
  go_wp2_with fail
  generalize W9.alloc (.cells #[.int .u8 2, .int .u8 5, .int .u8 0, .int .u8 1, .int .u8 5, .int .u8 0, .int .u8 0] 5) = V at *
  refine hf.out.mono ?_
  rintro e W10 ⟨rfl, k9⟩
  have X10 := Lib.hid (XX.out.kept k9)
  have Y6 := Lib.hid (YY.out.kept k9)
  clear k9 XX YY hf
  have b10 : Byt (W10.alloc (.cells #[.int .u8 2, .int .u8 5, .int .u8 0, .int .u8 1, .int .u8 0, .int .u8 4, .int .u8 0] 5)) (some ⟨W10.heap.size, 0, none⟩) 7 7 [2, 5, 0, 1, 0, 4, 0] := byt_lit W10 [2, 5, 0, 1, 0, 4, 0] (by decide) (all8_of (by decide))
  have kk10 : Wd.Kept W10 (W10.alloc (.cells #[.int .u8 2, .int .u8 5, .int .u8 0, .int .u8 1, .int .u8 0, .int .u8 4, .int .u8 0] 5)) := (Wd.Kept.refl W10).alloc _
  have hf := Lib.hid (fails_any 50 _ 7 7 [2, 5, 0, 1, 0, 4, 0] _ (HT.out.kept (X10.out.1.trans kk10)) b10 (by decide) next_lit3)
  have XX := Lib.hid (X10.out.kept kk10)
  have YY := Lib.hid (Y6.out.kept kk10)
  clear b10 kk10 X10
  go_wp2_with fail
  generalize W10.alloc (.cells #[.int .u8 2, .int .u8 5, .int .u8 0, .int .u8 1, .int .u8 0, .int .u8 4, .int .u8 0] 5) = V at *
  refine hf.out.mono ?_
  rintro e W11 ⟨rfl, k10⟩
  have X11 := Lib.hid (XX.out.kept k10)
  have Y6 := Lib.hid (YY.out.kept k10)
  clear k10 XX YY hf
  have b11 : Byt (W11.alloc (.cells #[.int .u8 4] 5)) (some ⟨W11.heap.size, 0, none⟩) 1 1 [4] := byt_lit W11 [4] (by decide) (all8_of (by decide))
  have kk11 : Wd.Kept W11 (W11.alloc (.cells #[.int .u8 4] 5)) := (Wd.Kept.refl W11).alloc _
  have hf := Lib.hid (fails_any 50 _ 1 1 [4] _ (HT.out.kept (X11.out.1.trans kk11)) b11 (by decide) next_lit4)
  have XX := Lib.hid (X11.out.kept kk11)
  have YY := Lib.hid (Y6.out.kept kk11)
  clear b11 kk11 X11
  go_wp2_with fail
  generalize W11.alloc (.cells #[.int .u8 4] 5) = V at *
  refine hf.out.mono ?_
  rintro e W12 ⟨rfl, k11⟩
  have X12 := Lib.hid (XX.out.kept k11)
  have Y6 := Lib.hid (YY.out.kept k11)
  clear k11 XX YY hf
  have hf := Lib.hid (fails_any 3 none 0 0 [] W12 (HT.out.kept X12.out.1) (Byt.nil W12) (by decide) next_lit5)
  go_wp2_with fail
  refine hf.out.mono ?_
  rintro e W13 ⟨rfl, k12⟩
  have X13 := Lib.hid (X12.out.kept k12)
  have Y6 := Lib.hid (Y6.out.kept k12)
  clear k12 X12 hf
  have b0 : Byt (W13.alloc (.cells #[.int .u8 2, .int .u8 5, .int .u8 0, .int .u8 0, .int .u8 0, .int .u8 0] 5)) (some ⟨W13.heap.size, 0, none⟩) 6 6 [2, 5, 0, 0, 0, 0] := byt_lit W13 [2, 5, 0, 0, 0, 0] (by decide) (all8_of (by decide))
  have kk : Wd.Kept W13 (W13.alloc (.cells #[.int .u8 2, .int .u8 5, .int .u8 0, .int .u8 0, .int .u8 0, .int .u8 0] 5)) := (Wd.Kept.refl W13).alloc _
  have hn := Lib.hid (next_any _ 6 6 [2, 5, 0, 0, 0, 0] _ (HT.out.kept (X13.out.1.trans kk)) b0 (by decide))
  have XA := Lib.hid (X13.out.kept kk)
  have YA := Lib.hid (Y6.out.kept kk)
  clear b0 kk X13 Y6
  go_wp2_with fail
  generalize W13.alloc (.cells #[.int .u8 2, .int .u8 5, .int .u8 0, .int .u8 0, .int .u8 0, .int .u8 0] 5) = V at *
  refine hn.out.mono ?_
  rintro e V1 ⟨v1, rfl, h1, k1⟩
  rw [next_lit6] at h1 ⊢
  obtain ⟨C1, d1, rfl, row1⟩ := h1
  obtain ⟨C1', d1', e1, rw1, -⟩ := Row.of_own row1 rfl
  injection e1 with e1 e2 e3
  subst e1; subst e3
  have X1 := Lib.hid (XA.out.kept k1)
  have Y1 := Lib.hid (YA.out.kept k1)
  have RW1 : Hid (Row V1 C1 1 d1 [(5, 5)]) := Lib.hid rw1
  clear row1 rw1 k1 hn XA YA
  have hcx : Hid (ackV C1 one5.ranges.length d1 one5 = .agg #[.int .i64 0, .slice C1 1 d1, .bool false, .int .i64 0, .int .i64 0, .int .i64 0]) := Lib.hid rfl
  rw [hcx.out]
  have kx := (Wd.Kept.refl V1).alloc (.cells #[.int .i64 0, .slice C1 1 d1, .bool false, .int .i64 0, .int .i64 0, .int .i64 0] 25)
  have px := Wd.Blk.new V1 25 #[.int .i64 0, .slice C1 1 d1, .bool false, .int .i64 0, .int .i64 0, .int .i64 0]
  have X2 := Lib.hid (X1.out.kept kx)
  have Y2 := Lib.hid (Y1.out.kept kx)
  have RW2 := Lib.hid (RW1.out.kept kx)
  have PX2 := Lib.hid px
  have sx : (V1.alloc (.cells #[.int .i64 0, .slice C1 1 d1, .bool false, .int .i64 0, .int .i64 0, .int .i64 0] 25)).heap.size = V1.heap.size + 1 := by simp
  have b0 : Byt ((V1.alloc (.cells #[.int .i64 0, .slice C1 1 d1, .bool false, .int .i64 0, .int .i64 0, .int .i64 0] 25)).alloc (.cells #[.int .u8 2, .int .u8 5, .int .u8 0, .int .u8 0, .int .u8 0, .int .u8 0] 5)) (some ⟨V1.heap.size + 1, 0, none⟩) 6 6 [2, 5, 0, 0, 0, 0] := by
    have := byt_lit (V1.alloc (.cells #[.int .i64 0, .slice C1 1 d1, .bool false, .int .i64 0, .int .i64 0, .int .i64 0] 25)) [2, 5, 0, 0, 0, 0] (by decide) (all8_of (by decide))
    rw [sx] at this
    exact this
  have k3 := (Wd.Kept.refl (V1.alloc (.cells #[.int .i64 0, .slice C1 1 d1, .bool false, .int .i64 0, .int .i64 0, .int .i64 0] 25))).alloc (.cells #[.int .u8 2, .int .u8 5, .int .u8 0, .int .u8 0, .int .u8 0, .int .u8 0] 5)
  have X3 := Lib.hid (X2.out.kept k3)
  have Y3 := Lib.hid (Y2.out.kept k3)
  have RW3 := Lib.hid (RW2.out.kept k3)
  have PX3 := Lib.hid (PX2.out.kept k3)
  have hp := Lib.hid (parse_any _ 6 6 [2, 5, 0, 0, 0, 0] _ (HT.out.kept X3.out.1) b0 (by decide))
  clear X1 Y1 RW1 kx px X2 Y2 RW2 PX2 b0 k3 sx hcx
  go_wp2_with fail
  generalize (V1.alloc (.cells #[.int .i64 0, .slice C1 1 d1, .bool false, .int .i64 0, .int .i64 0, .int .i64 0] 25)).alloc (.cells #[.int .u8 2, .int .u8 5, .int .u8 0, .int .u8 0, .int .u8 0, .int .u8 0] 5) = V3 at *
  generalize hg6 : V1.heap.size = g6 at *
  clear hg6
  refine hp.out.mono ?_
  rintro e V4 ⟨v4, rfl, ⟨C4, d4, rfl, -⟩, k4⟩
  rw [parse_lit6]
  have hcz : Hid (ackV C4 zero.ranges.length d4 zero = .agg #[.int .i64 0, .slice C4 0 d4, .bool false, .int .i64 0, .int .i64 0, .int .i64 0]) := Lib.hid rfl
  rw [hcz.out]
  have k5 := (Wd.Kept.refl V4).alloc (.cells #[.int .i64 0, .slice C4 0 d4, .bool false, .int .i64 0, .int .i64 0, .int .i64 0] 25)
  have X5 := Lib.hid (X3.out.kept (k4.trans k5))
  have Y5 := Lib.hid (Y3.out.kept (k4.trans k5))
  have RW5 := Lib.hid (RW3.out.kept (k4.trans k5))
  have PX5 := Lib.hid (PX3.out.kept (k4.trans k5))
  have hp2 := Lib.hid (parse_any _ _ _ _ _ (HT.out.kept X5.out.1) Y5.out (by decide))
  clear X3 Y3 RW3 PX3 k4 k5 hp
  go_wp2_with fail
  generalize V4.alloc (.cells #[.int .i64 0, .slice C4 0 d4, .bool false, .int .i64 0, .int .i64 0, .int .i64 0] 25) = V5 at *
  refine hp2.out.mono ?_
  rintro e V6 ⟨v6, rfl, h6, k6⟩
  rw [parse_lit2] at h6 ⊢
  obtain ⟨C7, d7, rfl, row7⟩ := h6
  obtain ⟨C7', d7', e1, rw7, -⟩ := Row.of_own row7 rfl
  injection e1 with e1 e2 e3
  subst e1; subst e3
  have hcx : Hid (ackV C7 two2.ranges.length d7 two2 = .agg #[.int .i64 100, .slice C7 2 d7, .bool true, .int .i64 1, .int .i64 0, .int .i64 2]) := Lib.hid rfl
  rw [hcx.out]
  have k7 := (Wd.Kept.refl V6).alloc (.cells #[.int .i64 100, .slice C7 2 d7, .bool true, .int .i64 1, .int .i64 0, .int .i64 2] 25)
  have F7 := Lib.hid (show Fin w g6 V6.heap.size C1 d1 C7 d7 (V6.alloc (.cells #[.int .i64 100, .slice C7 2 d7, .bool true, .int .i64 1, .int .i64 0, .int .i64 2] 25)) from ⟨X5.out.kept (k6.trans k7), PX5.out.kept (k6.trans k7), Wd.Blk.new V6 _ _, RW5.out.kept (k6.trans k7), rw7.kept k7⟩)
  clear X5 Y5 RW5 PX5 k6 k7 row7 rw7 hp2 hcx
  have hw1 := Lib.hid (wait_any 7 3 (V6.alloc (.cells #[.int .i64 100, .slice C7 2 d7, .bool true, .int .i64 1, .int .i64 0, .int .i64 2] 25)))
  go_wp2_with fail
  generalize V6.alloc (.cells #[.int .i64 100, .slice C7 2 d7, .bool true, .int .i64 1, .int .i64 0, .int .i64 2] 25) = V7 at *
  generalize hg11 : V6.heap.size = g11 at *
  clear hg11
  refine hw1.out.mono ?_
  rintro e V8 ⟨rfl, k8⟩
  rw [wait_lit1.1, wait_lit1.2]
  have F8 := Lib.hid (F7.out.kept k8)
  clear k8 F7 hw1
  go_wp2_with fail
  refine (wait_any 9007199254740991 20 V8).mono ?_
  rintro e V9 ⟨rfl, k9⟩
  rw [wait_lit2.1, wait_lit2.2]
  have F9 := Lib.hid (F8.out.kept k9)
  clear k9 F8
  go_wp2_with fail
  refine (wait_any 1 21 V9).mono ?_
  rintro e V10 ⟨rfl, k10⟩
  rw [wait_lit3]
  have D := Lib.hid ((F9.out.kept k10).kept ((Wd.Kept.refl V10).drew))
  clear k10 F9
  go_upto_region 14 with fail
  go_cut [0] (fun x wx => x = .bool true ∧ Hid (Wd.Kept w wx))
  case first =>
    go_region_held3 (fun W' => W'.cell? ⟨g6, 0, none⟩ = some (.int .i64 0) ∧ W'.cell? ⟨g6, 1, none⟩ = some (.slice C1 1 d1) ∧ W'.cell? ⟨g6, 2, none⟩ = some (.bool false) ∧ W'.cell? ⟨g6, 3, none⟩ = some (.int .i64 0) ∧ W'.cell? ⟨g6, 4, none⟩ = some (.int .i64 0) ∧ W'.cell? ⟨g6, 5, none⟩ = some (.int .i64 0) ∧ W'.cell? ⟨g11, 0, none⟩ = some (.int .i64 100) ∧ W'.cell? ⟨g11, 1, none⟩ = some (.slice C7 2 d7) ∧ W'.cell? ⟨g11, 2, none⟩ = some (.bool true) ∧ W'.cell? ⟨g11, 3, none⟩ = some (.int .i64 1) ∧ W'.cell? ⟨g11, 4, none⟩ = some (.int .i64 0) ∧ W'.cell? ⟨g11, 5, none⟩ = some (.int .i64 2) ∧ W'.cell? ⟨w.heap.size + 1, 0, none⟩ = some (.int .i64 100) ∧ W'.cell? ⟨w.heap.size + 1, 1, none⟩ = some (.slice (some ⟨w.heap.size, 0, none⟩) 2 2) ∧ W'.cell? ⟨w.heap.size + 1, 2, none⟩ = some (.bool true) ∧ W'.cell? ⟨w.heap.size + 1, 3, none⟩ = some (.int .i64 1) ∧ W'.cell? ⟨w.heap.size + 1, 4, none⟩ = some (.int .i64 0) ∧ W'.cell? ⟨w.heap.size + 1, 5, none⟩ = some (.int .i64 2))
      (first | exact D.out.cells | exact (D.out.kept ((Wd.Kept.refl _).alloc _)).cells)
      (first
        | (go_at_call 42; ((refine (one_held rfl D.out).mono ?_); rintro e w' ⟨rfl, d, r⟩; have D := Lib.hid d; have RL := Lib.hid r; clear d r))
        | (go_at_call 18; ((with_reducible refine (same_held2 D.out).mono ?_); rintro e w' ⟨rfl, d⟩; have D := Lib.hid d; clear d))
        | (go_at_call 18; ((refine (same_held1 D.out RL.out).mono ?_); rintro e w' ⟨rfl, d⟩; have D := Lib.hid d; clear d)))
    all_goals
      go_wp2
      go_meet
      exact ⟨rfl, Lib.hid D.out.bx.1⟩
  case rest =>
    obtain ⟨rfl, hK⟩ := hcut
    clear D
    go_wp2_with fail
    go_ret
    exact ⟨rfl, hK.out⟩


end Go.Proofs.YtganelhlpobdjaaDoor.Frm
