/-
  The law's works: the chapter's examples.
-/
import Derived.Test.YtchnljebhbaghaaWinL
namespace Go.Proofs.Ytchnljebhbaghaa.Win
open Go.RowKit WinM Wd
set_option linter.unusedVariables false
set_option linter.unusedSimpArgs false

theorem ex_grow1 : grow 1200 20000 6600 10000 = (7800, 3400) := by
  rw [grow_yes (by decide) (by decide), show min ((6600 : Int) + 1200) 20000 = 7800 from rfl, show (10000 : Int) - 6600 = 3400 from rfl]
  rw [grow_no (by decide)]
theorem ex_grow2 : grow 1200 20000 7800 63400 = (13800, 12400) := by
  rw [grow_yes (by decide) (by decide), show min ((7800 : Int) + 1200) 20000 = 9000 from rfl, show (63400 : Int) - 7800 = 55600 from rfl]
  rw [grow_yes (by decide) (by decide), show min ((9000 : Int) + 1200) 20000 = 10200 from rfl, show (55600 : Int) - 9000 = 46600 from rfl]
  rw [grow_yes (by decide) (by decide), show min ((10200 : Int) + 1200) 20000 = 11400 from rfl, show (46600 : Int) - 10200 = 36400 from rfl]
  rw [grow_yes (by decide) (by decide), show min ((11400 : Int) + 1200) 20000 = 12600 from rfl, show (36400 : Int) - 11400 = 25000 from rfl]
  rw [grow_yes (by decide) (by decide), show min ((12600 : Int) + 1200) 20000 = 13800 from rfl, show (25000 : Int) - 12600 = 12400 from rfl]
  rw [grow_no (by decide)]
theorem ex_x4 : ackW ⟨1200, 20000, 6600, 6600, 40, 5000⟩ 41 5000 true = ⟨1200, 20000, 7800, 6600, 40, 3400⟩ := by
  rw [ack_near (by decide) (by decide) (by decide) (by decide) (by decide), up_past (by decide) (by decide) (by decide)]
  show (⟨1200, 20000, (grow 1200 20000 6600 10000).1, 6600, 40, (grow 1200 20000 6600 10000).2⟩ : Wn) = _
  rw [ex_grow1]
theorem ex_x5 : ackW ⟨1200, 20000, 7800, 6600, 40, 3400⟩ 41 60000 true = ⟨1200, 20000, 13800, 6600, 40, 12400⟩ := by
  rw [ack_near (by decide) (by decide) (by decide) (by decide) (by decide), up_past (by decide) (by decide) (by decide)]
  show (⟨1200, 20000, (grow 1200 20000 7800 63400).1, 6600, 40, (grow 1200 20000 7800 63400).2⟩ : Wn) = _
  rw [ex_grow2]
theorem ex_x6 : colW ⟨1200, 20000, 13800, 6600, 40, 12400⟩ = ⟨1200, 20000, 2400, 6600, -1, 0⟩ ∧ chk ⟨1200, 20000, 13800, 6600, 40, 12400⟩ = 0 ∧ slowB ⟨1200, 20000, 7800, 6600, 40, 3400⟩ = false ∧ slowB ⟨1200, 20000, 2400, 6600, -1, 0⟩ = true := ⟨by decide, by decide, by decide, by decide⟩

/-- A literal row of two numbers, laid behind the newest block. -/
theorem lit_new (W : World) (a b : Int) : Lit (W.alloc (.cells #[.int .i64 a, .int .i64 b] 3)) W.heap.size a b := Blk.new _ _ _
abbrev Wb (W : World) (b : Nat) (x : Wn) : Prop := Blk W b 23 (wnA x)
theorem six_kept {w W : World} {b : Nat} (h : Kept w W) (hb : w.heap.size ≤ b) (y : Wn) : Kept w ((((((W.setCell ⟨b, 0, none⟩ (.int .i64 y.d)).setCell ⟨b, 1, none⟩ (.int .i64 y.m)).setCell ⟨b, 2, none⟩ (.int .i64 y.c)).setCell ⟨b, 3, none⟩ (.int .i64 y.t)).setCell ⟨b, 4, none⟩ (.int .i64 y.s)).setCell ⟨b, 5, none⟩ (.int .i64 y.g)) := kept_six h hb _ _ _ _ _ _

set_option maxRecDepth 100000 in
set_option maxHeartbeats 4000000 in
theorem works_any (w : World) : Calls Try.prog 24 #[] w (Gives (.bool true) w) := by
  have e0 := ex
  have q1 := Lib.hid (fun W => new_any 1200 12000 20000 W)
  rw [e0.1, e0.2.1] at q1
  have q2 := Lib.hid (fun W => slow_any ⟨1200, 20000, 12000, -1, -1, 0⟩ W)
  rw [e0.2.2.1] at q2
  have q3 := Lib.hid (fun W => acked_any ⟨1200, 20000, 12000, -1, -1, 0⟩ ⟨0, 5, 1200, false, false, false⟩ false W)
  rw [e0.2.2.2.1, show ackE ⟨1200, 20000, 12000, -1, -1, 0⟩ 5 1200 = 0 by decide] at q3
  have q4 := Lib.hid (fun W => law_acked ⟨1200, 20000, 12000, -1, -1, 0⟩ 5 1200 W)
  rw [e0.2.2.2.2.1] at q4
  have q5 := Lib.hid (fun W => law_bad ⟨1200, 20000, 13200, -1, -1, 0⟩ 5 40 W)
  rw [e0.2.2.2.2.2.1] at q5
  have q6 := Lib.hid (fun W => law_bad ⟨1200, 20000, 6600, 6600, 40, 0⟩ 40 60 W)
  rw [e0.2.2.2.2.2.2.1] at q6
  have q7 := Lib.hid (fun W => law_acked ⟨1200, 20000, 6600, 6600, 40, 0⟩ 41 5000 W)
  rw [e0.2.2.2.2.2.2.2] at q7
  have q8 := Lib.hid (fun W => law_acked ⟨1200, 20000, 6600, 6600, 40, 5000⟩ 41 5000 W)
  rw [ex_x4] at q8
  have q9 := Lib.hid (fun W => law_acked ⟨1200, 20000, 7800, 6600, 40, 3400⟩ 41 60000 W)
  rw [ex_x5] at q9
  have q10 := Lib.hid (fun W => collapse_any ⟨1200, 20000, 13800, 6600, 40, 12400⟩ W)
  rw [ex_x6.1, ex_x6.2.1] at q10
  have q11 := Lib.hid (fun W => slow_any ⟨1200, 20000, 7800, 6600, 40, 3400⟩ W)
  rw [ex_x6.2.2.1] at q11
  have q12 := Lib.hid (fun W => slow_any ⟨1200, 20000, 2400, 6600, -1, 0⟩ W)
  rw [ex_x6.2.2.2] at q12
  have i0 := Lib.hid (fun W g h => is_yes ⟨1200, 20000, 12000, -1, -1, 0⟩ g W h)
  have i1 := Lib.hid (fun W g h => is_yes ⟨1200, 20000, 13200, -1, -1, 0⟩ g W h)
  have i2 := Lib.hid (fun W g h => is_yes ⟨1200, 20000, 6600, 6600, 40, 0⟩ g W h)
  have i3 := Lib.hid (fun W g h => is_yes ⟨1200, 20000, 6600, 6600, 40, 5000⟩ g W h)
  have i4 := Lib.hid (fun W g h => is_yes ⟨1200, 20000, 7800, 6600, 40, 3400⟩ g W h)
  have i5 := Lib.hid (fun W g h => is_yes ⟨1200, 20000, 13800, 6600, 40, 12400⟩ g W h)
  have i6 := Lib.hid (fun W g h => is_yes ⟨1200, 20000, 2400, 6600, -1, 0⟩ g W h)
  clear e0
  go_enter Try.func24, Try.ntmps24
  go_wp2_with fail
  refine (q1.out _).mono ?_
  rintro e w1 ⟨rfl, K1⟩
  have K := Lib.hid K1
  have l0 : w.heap.size ≤ w1.heap.size := K1.size
  clear K1
  go_wp2_with fail
  have Ha : Hid (Wb (w1.alloc (.cells #[.int .i64 1200, .int .i64 20000, .int .i64 12000, .int .i64 (-1), .int .i64 (-1), .int .i64 0] 23)) w1.heap.size ⟨1200, 20000, 12000, -1, -1, 0⟩) := Lib.hid (Blk.new _ _ _)
  have K : Hid (Kept w (w1.alloc (.cells #[.int .i64 1200, .int .i64 20000, .int .i64 12000, .int .i64 (-1), .int .i64 (-1), .int .i64 0] 23))) := Lib.hid (K.out.alloc _)
  have Ha : Hid (Wb ((w1.alloc (.cells #[.int .i64 1200, .int .i64 20000, .int .i64 12000, .int .i64 (-1), .int .i64 (-1), .int .i64 0] 23)).alloc (.cells #[.int .i64 (-1), .int .i64 0] 3)) w1.heap.size ⟨1200, 20000, 12000, -1, -1, 0⟩) := Lib.hid (Ha.out.kept ((Kept.refl _).alloc _))
  have HL : Hid (Lit ((w1.alloc (.cells #[.int .i64 1200, .int .i64 20000, .int .i64 12000, .int .i64 (-1), .int .i64 (-1), .int .i64 0] 23)).alloc (.cells #[.int .i64 (-1), .int .i64 0] 3)) (w1.heap.size + 1) (-1) (0)) := Lib.hid (by have h := lit_new (w1.alloc (.cells #[.int .i64 1200, .int .i64 20000, .int .i64 12000, .int .i64 (-1), .int .i64 (-1), .int .i64 0] 23)) (-1) (0); simp only [World.size_alloc, World.size_setCell] at h; exact h)
  have K : Hid (Kept w ((w1.alloc (.cells #[.int .i64 1200, .int .i64 20000, .int .i64 12000, .int .i64 (-1), .int .i64 (-1), .int .i64 0] 23)).alloc (.cells #[.int .i64 (-1), .int .i64 0] 3))) := Lib.hid (K.out.alloc _)
  refine (i0.out _ _ HL.out).mono ?_
  rintro e w2 ⟨rfl, hk⟩
  have Ha : Hid (Wb w2 w1.heap.size ⟨1200, 20000, 12000, -1, -1, 0⟩) := Lib.hid (Ha.out.kept hk)
  have K : Hid (Kept w w2) := Lib.hid (K.out.trans hk)
  clear hk HL
  have l2 : w1.heap.size < w2.heap.size := Ha.out.lt
  have ca0 := Ha.out.cell 0
  have ca1 := Ha.out.cell 1
  have ca2 := Ha.out.cell 2
  have ca3 := Ha.out.cell 3
  have ca4 := Ha.out.cell 4
  have ca5 := Ha.out.cell 5
  have ta := Ha.out.lt
  go_wp2_with fail
  clear ca0 ca1 ca2 ca3 ca4 ca5 ta
  refine (q2.out _).mono ?_
  rintro e w3 ⟨rfl, hk⟩
  have Ha : Hid (Wb w3 w1.heap.size ⟨1200, 20000, 12000, -1, -1, 0⟩) := Lib.hid (Ha.out.kept hk)
  have K : Hid (Kept w w3) := Lib.hid (K.out.trans hk)
  clear hk
  have ca0 := Ha.out.cell 0
  have ca1 := Ha.out.cell 1
  have ca2 := Ha.out.cell 2
  have ca3 := Ha.out.cell 3
  have ca4 := Ha.out.cell 4
  have ca5 := Ha.out.cell 5
  have ta := Ha.out.lt
  go_wp2_with fail
  clear ca0 ca1 ca2 ca3 ca4 ca5 ta
  refine (q3.out _).mono ?_
  rintro e w4 ⟨rfl, hk⟩
  have Ha : Hid (Wb w4 w1.heap.size ⟨1200, 20000, 12000, -1, -1, 0⟩) := Lib.hid (Ha.out.kept hk)
  have K : Hid (Kept w w4) := Lib.hid (K.out.trans hk)
  clear hk
  have ca0 := Ha.out.cell 0
  have ca1 := Ha.out.cell 1
  have ca2 := Ha.out.cell 2
  have ca3 := Ha.out.cell 3
  have ca4 := Ha.out.cell 4
  have ca5 := Ha.out.cell 5
  have ta := Ha.out.lt
  go_wp2_with fail
  clear ca0 ca1 ca2 ca3 ca4 ca5 ta
  have LTa : w1.heap.size < w4.heap.size := Ha.out.lt
  have Ha : Hid (Wb (w4.alloc (.cells #[.int .i64 1200, .int .i64 20000, .int .i64 12000, .int .i64 (-1), .int .i64 (-1), .int .i64 0] 23)) w1.heap.size ⟨1200, 20000, 12000, -1, -1, 0⟩) := Lib.hid (Ha.out.kept ((Kept.refl _).alloc _))
  have Hb : Hid (Wb (w4.alloc (.cells #[.int .i64 1200, .int .i64 20000, .int .i64 12000, .int .i64 (-1), .int .i64 (-1), .int .i64 0] 23)) w4.heap.size ⟨1200, 20000, 12000, -1, -1, 0⟩) := Lib.hid (Blk.new _ _ _)
  have K : Hid (Kept w (w4.alloc (.cells #[.int .i64 1200, .int .i64 20000, .int .i64 12000, .int .i64 (-1), .int .i64 (-1), .int .i64 0] 23))) := Lib.hid (K.out.alloc _)
  have nab : w1.heap.size ≠ w4.heap.size := Nat.ne_of_lt LTa
  have nba : w4.heap.size ≠ w1.heap.size := Ne.symm nab
  clear LTa
  refine (q4.out _).mono ?_
  rintro e w5 ⟨rfl, hk⟩
  have Ha : Hid (Wb w5 w1.heap.size ⟨1200, 20000, 12000, -1, -1, 0⟩) := Lib.hid (Ha.out.kept hk)
  have Hb : Hid (Wb w5 w4.heap.size ⟨1200, 20000, 12000, -1, -1, 0⟩) := Lib.hid (Hb.out.kept hk)
  have K : Hid (Kept w w5) := Lib.hid (K.out.trans hk)
  clear hk
  have l5 : w4.heap.size < w5.heap.size := Hb.out.lt
  have ca0 := Ha.out.cell 0
  have ca1 := Ha.out.cell 1
  have ca2 := Ha.out.cell 2
  have ca3 := Ha.out.cell 3
  have ca4 := Ha.out.cell 4
  have ca5 := Ha.out.cell 5
  have fa0 := Ha.out.frozen 0
  have fa1 := Ha.out.frozen 1
  have fa2 := Ha.out.frozen 2
  have fa3 := Ha.out.frozen 3
  have fa4 := Ha.out.frozen 4
  have fa5 := Ha.out.frozen 5
  have ta := Ha.out.lt
  have cb0 := Hb.out.cell 0
  have cb1 := Hb.out.cell 1
  have cb2 := Hb.out.cell 2
  have cb3 := Hb.out.cell 3
  have cb4 := Hb.out.cell 4
  have cb5 := Hb.out.cell 5
  have tb := Hb.out.lt
  go_wp2_with fail
  clear ca0 ca1 ca2 ca3 ca4 ca5 fa0 fa1 fa2 fa3 fa4 fa5 ta
  clear cb0 cb1 cb2 cb3 cb4 cb5 tb
  have Ha : Hid (Wb ((((((w5.setCell ⟨w1.heap.size, 0, none⟩ (.int .i64 1200)).setCell ⟨w1.heap.size, 1, none⟩ (.int .i64 20000)).setCell ⟨w1.heap.size, 2, none⟩ (.int .i64 13200)).setCell ⟨w1.heap.size, 3, none⟩ (.int .i64 (-1))).setCell ⟨w1.heap.size, 4, none⟩ (.int .i64 (-1))).setCell ⟨w1.heap.size, 5, none⟩ (.int .i64 0)) w1.heap.size ⟨1200, 20000, 13200, -1, -1, 0⟩) := Lib.hid (six_blk (y := ⟨1200, 20000, 13200, -1, -1, 0⟩) Ha.out)
  have Hb : Hid (Wb ((((((w5.setCell ⟨w1.heap.size, 0, none⟩ (.int .i64 1200)).setCell ⟨w1.heap.size, 1, none⟩ (.int .i64 20000)).setCell ⟨w1.heap.size, 2, none⟩ (.int .i64 13200)).setCell ⟨w1.heap.size, 3, none⟩ (.int .i64 (-1))).setCell ⟨w1.heap.size, 4, none⟩ (.int .i64 (-1))).setCell ⟨w1.heap.size, 5, none⟩ (.int .i64 0)) w4.heap.size ⟨1200, 20000, 12000, -1, -1, 0⟩) := Lib.hid (six_far Hb.out (by omega) ⟨1200, 20000, 13200, -1, -1, 0⟩)
  have K : Hid (Kept w ((((((w5.setCell ⟨w1.heap.size, 0, none⟩ (.int .i64 1200)).setCell ⟨w1.heap.size, 1, none⟩ (.int .i64 20000)).setCell ⟨w1.heap.size, 2, none⟩ (.int .i64 13200)).setCell ⟨w1.heap.size, 3, none⟩ (.int .i64 (-1))).setCell ⟨w1.heap.size, 4, none⟩ (.int .i64 (-1))).setCell ⟨w1.heap.size, 5, none⟩ (.int .i64 0))) := Lib.hid (six_kept K.out (by omega) ⟨1200, 20000, 13200, -1, -1, 0⟩)
  have Ha : Hid (Wb (((((((w5.setCell ⟨w1.heap.size, 0, none⟩ (.int .i64 1200)).setCell ⟨w1.heap.size, 1, none⟩ (.int .i64 20000)).setCell ⟨w1.heap.size, 2, none⟩ (.int .i64 13200)).setCell ⟨w1.heap.size, 3, none⟩ (.int .i64 (-1))).setCell ⟨w1.heap.size, 4, none⟩ (.int .i64 (-1))).setCell ⟨w1.heap.size, 5, none⟩ (.int .i64 0)).alloc (.cells #[.int .i64 (-1), .int .i64 0] 3)) w1.heap.size ⟨1200, 20000, 13200, -1, -1, 0⟩) := Lib.hid (Ha.out.kept ((Kept.refl _).alloc _))
  have Hb : Hid (Wb (((((((w5.setCell ⟨w1.heap.size, 0, none⟩ (.int .i64 1200)).setCell ⟨w1.heap.size, 1, none⟩ (.int .i64 20000)).setCell ⟨w1.heap.size, 2, none⟩ (.int .i64 13200)).setCell ⟨w1.heap.size, 3, none⟩ (.int .i64 (-1))).setCell ⟨w1.heap.size, 4, none⟩ (.int .i64 (-1))).setCell ⟨w1.heap.size, 5, none⟩ (.int .i64 0)).alloc (.cells #[.int .i64 (-1), .int .i64 0] 3)) w4.heap.size ⟨1200, 20000, 12000, -1, -1, 0⟩) := Lib.hid (Hb.out.kept ((Kept.refl _).alloc _))
  have HL : Hid (Lit (((((((w5.setCell ⟨w1.heap.size, 0, none⟩ (.int .i64 1200)).setCell ⟨w1.heap.size, 1, none⟩ (.int .i64 20000)).setCell ⟨w1.heap.size, 2, none⟩ (.int .i64 13200)).setCell ⟨w1.heap.size, 3, none⟩ (.int .i64 (-1))).setCell ⟨w1.heap.size, 4, none⟩ (.int .i64 (-1))).setCell ⟨w1.heap.size, 5, none⟩ (.int .i64 0)).alloc (.cells #[.int .i64 (-1), .int .i64 0] 3)) (w5.heap.size) (-1) (0)) := Lib.hid (by have h := lit_new ((((((w5.setCell ⟨w1.heap.size, 0, none⟩ (.int .i64 1200)).setCell ⟨w1.heap.size, 1, none⟩ (.int .i64 20000)).setCell ⟨w1.heap.size, 2, none⟩ (.int .i64 13200)).setCell ⟨w1.heap.size, 3, none⟩ (.int .i64 (-1))).setCell ⟨w1.heap.size, 4, none⟩ (.int .i64 (-1))).setCell ⟨w1.heap.size, 5, none⟩ (.int .i64 0)) (-1) (0); simp only [World.size_alloc, World.size_setCell] at h; exact h)
  have K : Hid (Kept w (((((((w5.setCell ⟨w1.heap.size, 0, none⟩ (.int .i64 1200)).setCell ⟨w1.heap.size, 1, none⟩ (.int .i64 20000)).setCell ⟨w1.heap.size, 2, none⟩ (.int .i64 13200)).setCell ⟨w1.heap.size, 3, none⟩ (.int .i64 (-1))).setCell ⟨w1.heap.size, 4, none⟩ (.int .i64 (-1))).setCell ⟨w1.heap.size, 5, none⟩ (.int .i64 0)).alloc (.cells #[.int .i64 (-1), .int .i64 0] 3))) := Lib.hid (K.out.alloc _)
  refine (i0.out _ _ HL.out).mono ?_
  rintro e w6 ⟨rfl, hk⟩
  have Ha : Hid (Wb w6 w1.heap.size ⟨1200, 20000, 13200, -1, -1, 0⟩) := Lib.hid (Ha.out.kept hk)
  have Hb : Hid (Wb w6 w4.heap.size ⟨1200, 20000, 12000, -1, -1, 0⟩) := Lib.hid (Hb.out.kept hk)
  have K : Hid (Kept w w6) := Lib.hid (K.out.trans hk)
  clear hk HL
  have ca0 := Ha.out.cell 0
  have ca1 := Ha.out.cell 1
  have ca2 := Ha.out.cell 2
  have ca3 := Ha.out.cell 3
  have ca4 := Ha.out.cell 4
  have ca5 := Ha.out.cell 5
  have ta := Ha.out.lt
  go_wp2_with fail
  clear ca0 ca1 ca2 ca3 ca4 ca5 ta
  have Ha : Hid (Wb (w6.alloc (.cells #[.int .i64 (-1), .int .i64 0] 3)) w1.heap.size ⟨1200, 20000, 13200, -1, -1, 0⟩) := Lib.hid (Ha.out.kept ((Kept.refl _).alloc _))
  have Hb : Hid (Wb (w6.alloc (.cells #[.int .i64 (-1), .int .i64 0] 3)) w4.heap.size ⟨1200, 20000, 12000, -1, -1, 0⟩) := Lib.hid (Hb.out.kept ((Kept.refl _).alloc _))
  have HL : Hid (Lit (w6.alloc (.cells #[.int .i64 (-1), .int .i64 0] 3)) (w6.heap.size) (-1) (0)) := Lib.hid (lit_new w6 (-1) (0))
  have K : Hid (Kept w (w6.alloc (.cells #[.int .i64 (-1), .int .i64 0] 3))) := Lib.hid (K.out.alloc _)
  refine (i1.out _ _ HL.out).mono ?_
  rintro e w7 ⟨rfl, hk⟩
  have Ha : Hid (Wb w7 w1.heap.size ⟨1200, 20000, 13200, -1, -1, 0⟩) := Lib.hid (Ha.out.kept hk)
  have Hb : Hid (Wb w7 w4.heap.size ⟨1200, 20000, 12000, -1, -1, 0⟩) := Lib.hid (Hb.out.kept hk)
  have K : Hid (Kept w w7) := Lib.hid (K.out.trans hk)
  clear hk HL
  have ca0 := Ha.out.cell 0
  have ca1 := Ha.out.cell 1
  have ca2 := Ha.out.cell 2
  have ca3 := Ha.out.cell 3
  have ca4 := Ha.out.cell 4
  have ca5 := Ha.out.cell 5
  have ta := Ha.out.lt
  go_wp2_with fail
  clear ca0 ca1 ca2 ca3 ca4 ca5 ta
  refine (q5.out _).mono ?_
  rintro e w8 ⟨rfl, hk⟩
  have Ha : Hid (Wb w8 w1.heap.size ⟨1200, 20000, 13200, -1, -1, 0⟩) := Lib.hid (Ha.out.kept hk)
  have Hb : Hid (Wb w8 w4.heap.size ⟨1200, 20000, 12000, -1, -1, 0⟩) := Lib.hid (Hb.out.kept hk)
  have K : Hid (Kept w w8) := Lib.hid (K.out.trans hk)
  clear hk
  have ca0 := Ha.out.cell 0
  have ca1 := Ha.out.cell 1
  have ca2 := Ha.out.cell 2
  have ca3 := Ha.out.cell 3
  have ca4 := Ha.out.cell 4
  have ca5 := Ha.out.cell 5
  have fa0 := Ha.out.frozen 0
  have fa1 := Ha.out.frozen 1
  have fa2 := Ha.out.frozen 2
  have fa3 := Ha.out.frozen 3
  have fa4 := Ha.out.frozen 4
  have fa5 := Ha.out.frozen 5
  have ta := Ha.out.lt
  go_wp2_with fail
  clear ca0 ca1 ca2 ca3 ca4 ca5 fa0 fa1 fa2 fa3 fa4 fa5 ta
  have Ha : Hid (Wb ((((((w8.setCell ⟨w1.heap.size, 0, none⟩ (.int .i64 1200)).setCell ⟨w1.heap.size, 1, none⟩ (.int .i64 20000)).setCell ⟨w1.heap.size, 2, none⟩ (.int .i64 6600)).setCell ⟨w1.heap.size, 3, none⟩ (.int .i64 6600)).setCell ⟨w1.heap.size, 4, none⟩ (.int .i64 40)).setCell ⟨w1.heap.size, 5, none⟩ (.int .i64 0)) w1.heap.size ⟨1200, 20000, 6600, 6600, 40, 0⟩) := Lib.hid (six_blk (y := ⟨1200, 20000, 6600, 6600, 40, 0⟩) Ha.out)
  have Hb : Hid (Wb ((((((w8.setCell ⟨w1.heap.size, 0, none⟩ (.int .i64 1200)).setCell ⟨w1.heap.size, 1, none⟩ (.int .i64 20000)).setCell ⟨w1.heap.size, 2, none⟩ (.int .i64 6600)).setCell ⟨w1.heap.size, 3, none⟩ (.int .i64 6600)).setCell ⟨w1.heap.size, 4, none⟩ (.int .i64 40)).setCell ⟨w1.heap.size, 5, none⟩ (.int .i64 0)) w4.heap.size ⟨1200, 20000, 12000, -1, -1, 0⟩) := Lib.hid (six_far Hb.out (by omega) ⟨1200, 20000, 6600, 6600, 40, 0⟩)
  have K : Hid (Kept w ((((((w8.setCell ⟨w1.heap.size, 0, none⟩ (.int .i64 1200)).setCell ⟨w1.heap.size, 1, none⟩ (.int .i64 20000)).setCell ⟨w1.heap.size, 2, none⟩ (.int .i64 6600)).setCell ⟨w1.heap.size, 3, none⟩ (.int .i64 6600)).setCell ⟨w1.heap.size, 4, none⟩ (.int .i64 40)).setCell ⟨w1.heap.size, 5, none⟩ (.int .i64 0))) := Lib.hid (six_kept K.out (by omega) ⟨1200, 20000, 6600, 6600, 40, 0⟩)
  have Ha : Hid (Wb (((((((w8.setCell ⟨w1.heap.size, 0, none⟩ (.int .i64 1200)).setCell ⟨w1.heap.size, 1, none⟩ (.int .i64 20000)).setCell ⟨w1.heap.size, 2, none⟩ (.int .i64 6600)).setCell ⟨w1.heap.size, 3, none⟩ (.int .i64 6600)).setCell ⟨w1.heap.size, 4, none⟩ (.int .i64 40)).setCell ⟨w1.heap.size, 5, none⟩ (.int .i64 0)).alloc (.cells #[.int .i64 40, .int .i64 0] 3)) w1.heap.size ⟨1200, 20000, 6600, 6600, 40, 0⟩) := Lib.hid (Ha.out.kept ((Kept.refl _).alloc _))
  have Hb : Hid (Wb (((((((w8.setCell ⟨w1.heap.size, 0, none⟩ (.int .i64 1200)).setCell ⟨w1.heap.size, 1, none⟩ (.int .i64 20000)).setCell ⟨w1.heap.size, 2, none⟩ (.int .i64 6600)).setCell ⟨w1.heap.size, 3, none⟩ (.int .i64 6600)).setCell ⟨w1.heap.size, 4, none⟩ (.int .i64 40)).setCell ⟨w1.heap.size, 5, none⟩ (.int .i64 0)).alloc (.cells #[.int .i64 40, .int .i64 0] 3)) w4.heap.size ⟨1200, 20000, 12000, -1, -1, 0⟩) := Lib.hid (Hb.out.kept ((Kept.refl _).alloc _))
  have HL : Hid (Lit (((((((w8.setCell ⟨w1.heap.size, 0, none⟩ (.int .i64 1200)).setCell ⟨w1.heap.size, 1, none⟩ (.int .i64 20000)).setCell ⟨w1.heap.size, 2, none⟩ (.int .i64 6600)).setCell ⟨w1.heap.size, 3, none⟩ (.int .i64 6600)).setCell ⟨w1.heap.size, 4, none⟩ (.int .i64 40)).setCell ⟨w1.heap.size, 5, none⟩ (.int .i64 0)).alloc (.cells #[.int .i64 40, .int .i64 0] 3)) (w8.heap.size) (40) (0)) := Lib.hid (by have h := lit_new ((((((w8.setCell ⟨w1.heap.size, 0, none⟩ (.int .i64 1200)).setCell ⟨w1.heap.size, 1, none⟩ (.int .i64 20000)).setCell ⟨w1.heap.size, 2, none⟩ (.int .i64 6600)).setCell ⟨w1.heap.size, 3, none⟩ (.int .i64 6600)).setCell ⟨w1.heap.size, 4, none⟩ (.int .i64 40)).setCell ⟨w1.heap.size, 5, none⟩ (.int .i64 0)) (40) (0); simp only [World.size_alloc, World.size_setCell] at h; exact h)
  have K : Hid (Kept w (((((((w8.setCell ⟨w1.heap.size, 0, none⟩ (.int .i64 1200)).setCell ⟨w1.heap.size, 1, none⟩ (.int .i64 20000)).setCell ⟨w1.heap.size, 2, none⟩ (.int .i64 6600)).setCell ⟨w1.heap.size, 3, none⟩ (.int .i64 6600)).setCell ⟨w1.heap.size, 4, none⟩ (.int .i64 40)).setCell ⟨w1.heap.size, 5, none⟩ (.int .i64 0)).alloc (.cells #[.int .i64 40, .int .i64 0] 3))) := Lib.hid (K.out.alloc _)
  refine (i2.out _ _ HL.out).mono ?_
  rintro e w9 ⟨rfl, hk⟩
  have Ha : Hid (Wb w9 w1.heap.size ⟨1200, 20000, 6600, 6600, 40, 0⟩) := Lib.hid (Ha.out.kept hk)
  have Hb : Hid (Wb w9 w4.heap.size ⟨1200, 20000, 12000, -1, -1, 0⟩) := Lib.hid (Hb.out.kept hk)
  have K : Hid (Kept w w9) := Lib.hid (K.out.trans hk)
  clear hk HL
  have ca0 := Ha.out.cell 0
  have ca1 := Ha.out.cell 1
  have ca2 := Ha.out.cell 2
  have ca3 := Ha.out.cell 3
  have ca4 := Ha.out.cell 4
  have ca5 := Ha.out.cell 5
  have ta := Ha.out.lt
  go_wp2_with fail
  clear ca0 ca1 ca2 ca3 ca4 ca5 ta
  refine (q6.out _).mono ?_
  rintro e w10 ⟨rfl, hk⟩
  have Ha : Hid (Wb w10 w1.heap.size ⟨1200, 20000, 6600, 6600, 40, 0⟩) := Lib.hid (Ha.out.kept hk)
  have Hb : Hid (Wb w10 w4.heap.size ⟨1200, 20000, 12000, -1, -1, 0⟩) := Lib.hid (Hb.out.kept hk)
  have K : Hid (Kept w w10) := Lib.hid (K.out.trans hk)
  clear hk
  go_wp2_with fail
  have Ha : Hid (Wb (w10.alloc (.cells #[.int .i64 40, .int .i64 0] 3)) w1.heap.size ⟨1200, 20000, 6600, 6600, 40, 0⟩) := Lib.hid (Ha.out.kept ((Kept.refl _).alloc _))
  have Hb : Hid (Wb (w10.alloc (.cells #[.int .i64 40, .int .i64 0] 3)) w4.heap.size ⟨1200, 20000, 12000, -1, -1, 0⟩) := Lib.hid (Hb.out.kept ((Kept.refl _).alloc _))
  have HL : Hid (Lit (w10.alloc (.cells #[.int .i64 40, .int .i64 0] 3)) (w10.heap.size) (40) (0)) := Lib.hid (lit_new w10 (40) (0))
  have K : Hid (Kept w (w10.alloc (.cells #[.int .i64 40, .int .i64 0] 3))) := Lib.hid (K.out.alloc _)
  refine (i2.out _ _ HL.out).mono ?_
  rintro e w11 ⟨rfl, hk⟩
  have Ha : Hid (Wb w11 w1.heap.size ⟨1200, 20000, 6600, 6600, 40, 0⟩) := Lib.hid (Ha.out.kept hk)
  have Hb : Hid (Wb w11 w4.heap.size ⟨1200, 20000, 12000, -1, -1, 0⟩) := Lib.hid (Hb.out.kept hk)
  have K : Hid (Kept w w11) := Lib.hid (K.out.trans hk)
  clear hk HL
  have ca0 := Ha.out.cell 0
  have ca1 := Ha.out.cell 1
  have ca2 := Ha.out.cell 2
  have ca3 := Ha.out.cell 3
  have ca4 := Ha.out.cell 4
  have ca5 := Ha.out.cell 5
  have ta := Ha.out.lt
  go_wp2_with fail
  clear ca0 ca1 ca2 ca3 ca4 ca5 ta
  refine (q7.out _).mono ?_
  rintro e w12 ⟨rfl, hk⟩
  have Ha : Hid (Wb w12 w1.heap.size ⟨1200, 20000, 6600, 6600, 40, 0⟩) := Lib.hid (Ha.out.kept hk)
  have Hb : Hid (Wb w12 w4.heap.size ⟨1200, 20000, 12000, -1, -1, 0⟩) := Lib.hid (Hb.out.kept hk)
  have K : Hid (Kept w w12) := Lib.hid (K.out.trans hk)
  clear hk
  have ca0 := Ha.out.cell 0
  have ca1 := Ha.out.cell 1
  have ca2 := Ha.out.cell 2
  have ca3 := Ha.out.cell 3
  have ca4 := Ha.out.cell 4
  have ca5 := Ha.out.cell 5
  have fa0 := Ha.out.frozen 0
  have fa1 := Ha.out.frozen 1
  have fa2 := Ha.out.frozen 2
  have fa3 := Ha.out.frozen 3
  have fa4 := Ha.out.frozen 4
  have fa5 := Ha.out.frozen 5
  have ta := Ha.out.lt
  go_wp2_with fail
  clear ca0 ca1 ca2 ca3 ca4 ca5 fa0 fa1 fa2 fa3 fa4 fa5 ta
  have Ha : Hid (Wb ((((((w12.setCell ⟨w1.heap.size, 0, none⟩ (.int .i64 1200)).setCell ⟨w1.heap.size, 1, none⟩ (.int .i64 20000)).setCell ⟨w1.heap.size, 2, none⟩ (.int .i64 6600)).setCell ⟨w1.heap.size, 3, none⟩ (.int .i64 6600)).setCell ⟨w1.heap.size, 4, none⟩ (.int .i64 40)).setCell ⟨w1.heap.size, 5, none⟩ (.int .i64 5000)) w1.heap.size ⟨1200, 20000, 6600, 6600, 40, 5000⟩) := Lib.hid (six_blk (y := ⟨1200, 20000, 6600, 6600, 40, 5000⟩) Ha.out)
  have Hb : Hid (Wb ((((((w12.setCell ⟨w1.heap.size, 0, none⟩ (.int .i64 1200)).setCell ⟨w1.heap.size, 1, none⟩ (.int .i64 20000)).setCell ⟨w1.heap.size, 2, none⟩ (.int .i64 6600)).setCell ⟨w1.heap.size, 3, none⟩ (.int .i64 6600)).setCell ⟨w1.heap.size, 4, none⟩ (.int .i64 40)).setCell ⟨w1.heap.size, 5, none⟩ (.int .i64 5000)) w4.heap.size ⟨1200, 20000, 12000, -1, -1, 0⟩) := Lib.hid (six_far Hb.out (by omega) ⟨1200, 20000, 6600, 6600, 40, 5000⟩)
  have K : Hid (Kept w ((((((w12.setCell ⟨w1.heap.size, 0, none⟩ (.int .i64 1200)).setCell ⟨w1.heap.size, 1, none⟩ (.int .i64 20000)).setCell ⟨w1.heap.size, 2, none⟩ (.int .i64 6600)).setCell ⟨w1.heap.size, 3, none⟩ (.int .i64 6600)).setCell ⟨w1.heap.size, 4, none⟩ (.int .i64 40)).setCell ⟨w1.heap.size, 5, none⟩ (.int .i64 5000))) := Lib.hid (six_kept K.out (by omega) ⟨1200, 20000, 6600, 6600, 40, 5000⟩)
  refine (q8.out _).mono ?_
  rintro e w13 ⟨rfl, hk⟩
  have Ha : Hid (Wb w13 w1.heap.size ⟨1200, 20000, 6600, 6600, 40, 5000⟩) := Lib.hid (Ha.out.kept hk)
  have Hb : Hid (Wb w13 w4.heap.size ⟨1200, 20000, 12000, -1, -1, 0⟩) := Lib.hid (Hb.out.kept hk)
  have K : Hid (Kept w w13) := Lib.hid (K.out.trans hk)
  clear hk
  go_wp2_with fail
  have LTa : w1.heap.size < w13.heap.size := Ha.out.lt
  have LTb : w4.heap.size < w13.heap.size := Hb.out.lt
  have Ha : Hid (Wb (w13.alloc (.cells #[.int .i64 1200, .int .i64 20000, .int .i64 7800, .int .i64 6600, .int .i64 40, .int .i64 3400] 23)) w1.heap.size ⟨1200, 20000, 6600, 6600, 40, 5000⟩) := Lib.hid (Ha.out.kept ((Kept.refl _).alloc _))
  have Hb : Hid (Wb (w13.alloc (.cells #[.int .i64 1200, .int .i64 20000, .int .i64 7800, .int .i64 6600, .int .i64 40, .int .i64 3400] 23)) w4.heap.size ⟨1200, 20000, 12000, -1, -1, 0⟩) := Lib.hid (Hb.out.kept ((Kept.refl _).alloc _))
  have Hc : Hid (Wb (w13.alloc (.cells #[.int .i64 1200, .int .i64 20000, .int .i64 7800, .int .i64 6600, .int .i64 40, .int .i64 3400] 23)) w13.heap.size ⟨1200, 20000, 7800, 6600, 40, 3400⟩) := Lib.hid (Blk.new _ _ _)
  have K : Hid (Kept w (w13.alloc (.cells #[.int .i64 1200, .int .i64 20000, .int .i64 7800, .int .i64 6600, .int .i64 40, .int .i64 3400] 23))) := Lib.hid (K.out.alloc _)
  have nac : w1.heap.size ≠ w13.heap.size := Nat.ne_of_lt LTa
  have nca : w13.heap.size ≠ w1.heap.size := Ne.symm nac
  have nbc : w4.heap.size ≠ w13.heap.size := Nat.ne_of_lt LTb
  have ncb : w13.heap.size ≠ w4.heap.size := Ne.symm nbc
  clear LTa
  clear LTb
  refine (q9.out _).mono ?_
  rintro e w14 ⟨rfl, hk⟩
  have Ha : Hid (Wb w14 w1.heap.size ⟨1200, 20000, 6600, 6600, 40, 5000⟩) := Lib.hid (Ha.out.kept hk)
  have Hb : Hid (Wb w14 w4.heap.size ⟨1200, 20000, 12000, -1, -1, 0⟩) := Lib.hid (Hb.out.kept hk)
  have Hc : Hid (Wb w14 w13.heap.size ⟨1200, 20000, 7800, 6600, 40, 3400⟩) := Lib.hid (Hc.out.kept hk)
  have K : Hid (Kept w w14) := Lib.hid (K.out.trans hk)
  clear hk
  have l14 : w13.heap.size < w14.heap.size := Hc.out.lt
  go_wp2_with fail
  have LTa : w1.heap.size < w14.heap.size := Ha.out.lt
  have LTb : w4.heap.size < w14.heap.size := Hb.out.lt
  have LTc : w13.heap.size < w14.heap.size := Hc.out.lt
  have Ha : Hid (Wb (w14.alloc (.cells #[.int .i64 1200, .int .i64 20000, .int .i64 13800, .int .i64 6600, .int .i64 40, .int .i64 12400] 23)) w1.heap.size ⟨1200, 20000, 6600, 6600, 40, 5000⟩) := Lib.hid (Ha.out.kept ((Kept.refl _).alloc _))
  have Hb : Hid (Wb (w14.alloc (.cells #[.int .i64 1200, .int .i64 20000, .int .i64 13800, .int .i64 6600, .int .i64 40, .int .i64 12400] 23)) w4.heap.size ⟨1200, 20000, 12000, -1, -1, 0⟩) := Lib.hid (Hb.out.kept ((Kept.refl _).alloc _))
  have Hc : Hid (Wb (w14.alloc (.cells #[.int .i64 1200, .int .i64 20000, .int .i64 13800, .int .i64 6600, .int .i64 40, .int .i64 12400] 23)) w13.heap.size ⟨1200, 20000, 7800, 6600, 40, 3400⟩) := Lib.hid (Hc.out.kept ((Kept.refl _).alloc _))
  have Hd : Hid (Wb (w14.alloc (.cells #[.int .i64 1200, .int .i64 20000, .int .i64 13800, .int .i64 6600, .int .i64 40, .int .i64 12400] 23)) w14.heap.size ⟨1200, 20000, 13800, 6600, 40, 12400⟩) := Lib.hid (Blk.new _ _ _)
  have K : Hid (Kept w (w14.alloc (.cells #[.int .i64 1200, .int .i64 20000, .int .i64 13800, .int .i64 6600, .int .i64 40, .int .i64 12400] 23))) := Lib.hid (K.out.alloc _)
  have nad : w1.heap.size ≠ w14.heap.size := Nat.ne_of_lt LTa
  have nda : w14.heap.size ≠ w1.heap.size := Ne.symm nad
  have nbd : w4.heap.size ≠ w14.heap.size := Nat.ne_of_lt LTb
  have ndb : w14.heap.size ≠ w4.heap.size := Ne.symm nbd
  have ncd : w13.heap.size ≠ w14.heap.size := Nat.ne_of_lt LTc
  have ndc : w14.heap.size ≠ w13.heap.size := Ne.symm ncd
  clear LTa
  clear LTb
  clear LTc
  refine (q10.out _).mono ?_
  rintro e w15 ⟨rfl, hk⟩
  have Ha : Hid (Wb w15 w1.heap.size ⟨1200, 20000, 6600, 6600, 40, 5000⟩) := Lib.hid (Ha.out.kept hk)
  have Hb : Hid (Wb w15 w4.heap.size ⟨1200, 20000, 12000, -1, -1, 0⟩) := Lib.hid (Hb.out.kept hk)
  have Hc : Hid (Wb w15 w13.heap.size ⟨1200, 20000, 7800, 6600, 40, 3400⟩) := Lib.hid (Hc.out.kept hk)
  have Hd : Hid (Wb w15 w14.heap.size ⟨1200, 20000, 13800, 6600, 40, 12400⟩) := Lib.hid (Hd.out.kept hk)
  have K : Hid (Kept w w15) := Lib.hid (K.out.trans hk)
  clear hk
  have l15 : w14.heap.size < w15.heap.size := Hd.out.lt
  have ca0 := Ha.out.cell 0
  have ca1 := Ha.out.cell 1
  have ca2 := Ha.out.cell 2
  have ca3 := Ha.out.cell 3
  have ca4 := Ha.out.cell 4
  have ca5 := Ha.out.cell 5
  have ta := Ha.out.lt
  go_wp2_with fail
  clear ca0 ca1 ca2 ca3 ca4 ca5 ta
  have LTa : w1.heap.size < w15.heap.size := Ha.out.lt
  have LTb : w4.heap.size < w15.heap.size := Hb.out.lt
  have LTc : w13.heap.size < w15.heap.size := Hc.out.lt
  have LTd : w14.heap.size < w15.heap.size := Hd.out.lt
  have Ha : Hid (Wb (w15.alloc (.cells #[.int .i64 1200, .int .i64 20000, .int .i64 2400, .int .i64 6600, .int .i64 (-1), .int .i64 0] 23)) w1.heap.size ⟨1200, 20000, 6600, 6600, 40, 5000⟩) := Lib.hid (Ha.out.kept ((Kept.refl _).alloc _))
  have Hb : Hid (Wb (w15.alloc (.cells #[.int .i64 1200, .int .i64 20000, .int .i64 2400, .int .i64 6600, .int .i64 (-1), .int .i64 0] 23)) w4.heap.size ⟨1200, 20000, 12000, -1, -1, 0⟩) := Lib.hid (Hb.out.kept ((Kept.refl _).alloc _))
  have Hc : Hid (Wb (w15.alloc (.cells #[.int .i64 1200, .int .i64 20000, .int .i64 2400, .int .i64 6600, .int .i64 (-1), .int .i64 0] 23)) w13.heap.size ⟨1200, 20000, 7800, 6600, 40, 3400⟩) := Lib.hid (Hc.out.kept ((Kept.refl _).alloc _))
  have Hd : Hid (Wb (w15.alloc (.cells #[.int .i64 1200, .int .i64 20000, .int .i64 2400, .int .i64 6600, .int .i64 (-1), .int .i64 0] 23)) w14.heap.size ⟨1200, 20000, 13800, 6600, 40, 12400⟩) := Lib.hid (Hd.out.kept ((Kept.refl _).alloc _))
  have He : Hid (Wb (w15.alloc (.cells #[.int .i64 1200, .int .i64 20000, .int .i64 2400, .int .i64 6600, .int .i64 (-1), .int .i64 0] 23)) w15.heap.size ⟨1200, 20000, 2400, 6600, -1, 0⟩) := Lib.hid (Blk.new _ _ _)
  have K : Hid (Kept w (w15.alloc (.cells #[.int .i64 1200, .int .i64 20000, .int .i64 2400, .int .i64 6600, .int .i64 (-1), .int .i64 0] 23))) := Lib.hid (K.out.alloc _)
  have nae : w1.heap.size ≠ w15.heap.size := Nat.ne_of_lt LTa
  have nea : w15.heap.size ≠ w1.heap.size := Ne.symm nae
  have nbe : w4.heap.size ≠ w15.heap.size := Nat.ne_of_lt LTb
  have neb : w15.heap.size ≠ w4.heap.size := Ne.symm nbe
  have nce : w13.heap.size ≠ w15.heap.size := Nat.ne_of_lt LTc
  have nec : w15.heap.size ≠ w13.heap.size := Ne.symm nce
  have nde : w14.heap.size ≠ w15.heap.size := Nat.ne_of_lt LTd
  have ned : w15.heap.size ≠ w14.heap.size := Ne.symm nde
  clear LTa
  clear LTb
  clear LTc
  clear LTd
  have Ha : Hid (Wb ((w15.alloc (.cells #[.int .i64 1200, .int .i64 20000, .int .i64 2400, .int .i64 6600, .int .i64 (-1), .int .i64 0] 23)).alloc (.cells #[.int .i64 40, .int .i64 5000] 3)) w1.heap.size ⟨1200, 20000, 6600, 6600, 40, 5000⟩) := Lib.hid (Ha.out.kept ((Kept.refl _).alloc _))
  have Hb : Hid (Wb ((w15.alloc (.cells #[.int .i64 1200, .int .i64 20000, .int .i64 2400, .int .i64 6600, .int .i64 (-1), .int .i64 0] 23)).alloc (.cells #[.int .i64 40, .int .i64 5000] 3)) w4.heap.size ⟨1200, 20000, 12000, -1, -1, 0⟩) := Lib.hid (Hb.out.kept ((Kept.refl _).alloc _))
  have Hc : Hid (Wb ((w15.alloc (.cells #[.int .i64 1200, .int .i64 20000, .int .i64 2400, .int .i64 6600, .int .i64 (-1), .int .i64 0] 23)).alloc (.cells #[.int .i64 40, .int .i64 5000] 3)) w13.heap.size ⟨1200, 20000, 7800, 6600, 40, 3400⟩) := Lib.hid (Hc.out.kept ((Kept.refl _).alloc _))
  have Hd : Hid (Wb ((w15.alloc (.cells #[.int .i64 1200, .int .i64 20000, .int .i64 2400, .int .i64 6600, .int .i64 (-1), .int .i64 0] 23)).alloc (.cells #[.int .i64 40, .int .i64 5000] 3)) w14.heap.size ⟨1200, 20000, 13800, 6600, 40, 12400⟩) := Lib.hid (Hd.out.kept ((Kept.refl _).alloc _))
  have He : Hid (Wb ((w15.alloc (.cells #[.int .i64 1200, .int .i64 20000, .int .i64 2400, .int .i64 6600, .int .i64 (-1), .int .i64 0] 23)).alloc (.cells #[.int .i64 40, .int .i64 5000] 3)) w15.heap.size ⟨1200, 20000, 2400, 6600, -1, 0⟩) := Lib.hid (He.out.kept ((Kept.refl _).alloc _))
  have HL : Hid (Lit ((w15.alloc (.cells #[.int .i64 1200, .int .i64 20000, .int .i64 2400, .int .i64 6600, .int .i64 (-1), .int .i64 0] 23)).alloc (.cells #[.int .i64 40, .int .i64 5000] 3)) (w15.heap.size + 1) (40) (5000)) := Lib.hid (by have h := lit_new (w15.alloc (.cells #[.int .i64 1200, .int .i64 20000, .int .i64 2400, .int .i64 6600, .int .i64 (-1), .int .i64 0] 23)) (40) (5000); simp only [World.size_alloc, World.size_setCell] at h; exact h)
  have K : Hid (Kept w ((w15.alloc (.cells #[.int .i64 1200, .int .i64 20000, .int .i64 2400, .int .i64 6600, .int .i64 (-1), .int .i64 0] 23)).alloc (.cells #[.int .i64 40, .int .i64 5000] 3))) := Lib.hid (K.out.alloc _)
  refine (i3.out _ _ HL.out).mono ?_
  rintro e w16 ⟨rfl, hk⟩
  have Ha : Hid (Wb w16 w1.heap.size ⟨1200, 20000, 6600, 6600, 40, 5000⟩) := Lib.hid (Ha.out.kept hk)
  have Hb : Hid (Wb w16 w4.heap.size ⟨1200, 20000, 12000, -1, -1, 0⟩) := Lib.hid (Hb.out.kept hk)
  have Hc : Hid (Wb w16 w13.heap.size ⟨1200, 20000, 7800, 6600, 40, 3400⟩) := Lib.hid (Hc.out.kept hk)
  have Hd : Hid (Wb w16 w14.heap.size ⟨1200, 20000, 13800, 6600, 40, 12400⟩) := Lib.hid (Hd.out.kept hk)
  have He : Hid (Wb w16 w15.heap.size ⟨1200, 20000, 2400, 6600, -1, 0⟩) := Lib.hid (He.out.kept hk)
  have K : Hid (Kept w w16) := Lib.hid (K.out.trans hk)
  clear hk HL
  have l16 : w15.heap.size < w16.heap.size := He.out.lt
  have cc0 := Hc.out.cell 0
  have cc1 := Hc.out.cell 1
  have cc2 := Hc.out.cell 2
  have cc3 := Hc.out.cell 3
  have cc4 := Hc.out.cell 4
  have cc5 := Hc.out.cell 5
  have tc := Hc.out.lt
  go_wp2_with fail
  clear cc0 cc1 cc2 cc3 cc4 cc5 tc
  have Ha : Hid (Wb (w16.alloc (.cells #[.int .i64 40, .int .i64 3400] 3)) w1.heap.size ⟨1200, 20000, 6600, 6600, 40, 5000⟩) := Lib.hid (Ha.out.kept ((Kept.refl _).alloc _))
  have Hb : Hid (Wb (w16.alloc (.cells #[.int .i64 40, .int .i64 3400] 3)) w4.heap.size ⟨1200, 20000, 12000, -1, -1, 0⟩) := Lib.hid (Hb.out.kept ((Kept.refl _).alloc _))
  have Hc : Hid (Wb (w16.alloc (.cells #[.int .i64 40, .int .i64 3400] 3)) w13.heap.size ⟨1200, 20000, 7800, 6600, 40, 3400⟩) := Lib.hid (Hc.out.kept ((Kept.refl _).alloc _))
  have Hd : Hid (Wb (w16.alloc (.cells #[.int .i64 40, .int .i64 3400] 3)) w14.heap.size ⟨1200, 20000, 13800, 6600, 40, 12400⟩) := Lib.hid (Hd.out.kept ((Kept.refl _).alloc _))
  have He : Hid (Wb (w16.alloc (.cells #[.int .i64 40, .int .i64 3400] 3)) w15.heap.size ⟨1200, 20000, 2400, 6600, -1, 0⟩) := Lib.hid (He.out.kept ((Kept.refl _).alloc _))
  have HL : Hid (Lit (w16.alloc (.cells #[.int .i64 40, .int .i64 3400] 3)) (w16.heap.size) (40) (3400)) := Lib.hid (lit_new w16 (40) (3400))
  have K : Hid (Kept w (w16.alloc (.cells #[.int .i64 40, .int .i64 3400] 3))) := Lib.hid (K.out.alloc _)
  refine (i4.out _ _ HL.out).mono ?_
  rintro e w17 ⟨rfl, hk⟩
  have Ha : Hid (Wb w17 w1.heap.size ⟨1200, 20000, 6600, 6600, 40, 5000⟩) := Lib.hid (Ha.out.kept hk)
  have Hb : Hid (Wb w17 w4.heap.size ⟨1200, 20000, 12000, -1, -1, 0⟩) := Lib.hid (Hb.out.kept hk)
  have Hc : Hid (Wb w17 w13.heap.size ⟨1200, 20000, 7800, 6600, 40, 3400⟩) := Lib.hid (Hc.out.kept hk)
  have Hd : Hid (Wb w17 w14.heap.size ⟨1200, 20000, 13800, 6600, 40, 12400⟩) := Lib.hid (Hd.out.kept hk)
  have He : Hid (Wb w17 w15.heap.size ⟨1200, 20000, 2400, 6600, -1, 0⟩) := Lib.hid (He.out.kept hk)
  have K : Hid (Kept w w17) := Lib.hid (K.out.trans hk)
  clear hk HL
  have cd0 := Hd.out.cell 0
  have cd1 := Hd.out.cell 1
  have cd2 := Hd.out.cell 2
  have cd3 := Hd.out.cell 3
  have cd4 := Hd.out.cell 4
  have cd5 := Hd.out.cell 5
  have td := Hd.out.lt
  go_wp2_with fail
  clear cd0 cd1 cd2 cd3 cd4 cd5 td
  have Ha : Hid (Wb (w17.alloc (.cells #[.int .i64 40, .int .i64 12400] 3)) w1.heap.size ⟨1200, 20000, 6600, 6600, 40, 5000⟩) := Lib.hid (Ha.out.kept ((Kept.refl _).alloc _))
  have Hb : Hid (Wb (w17.alloc (.cells #[.int .i64 40, .int .i64 12400] 3)) w4.heap.size ⟨1200, 20000, 12000, -1, -1, 0⟩) := Lib.hid (Hb.out.kept ((Kept.refl _).alloc _))
  have Hc : Hid (Wb (w17.alloc (.cells #[.int .i64 40, .int .i64 12400] 3)) w13.heap.size ⟨1200, 20000, 7800, 6600, 40, 3400⟩) := Lib.hid (Hc.out.kept ((Kept.refl _).alloc _))
  have Hd : Hid (Wb (w17.alloc (.cells #[.int .i64 40, .int .i64 12400] 3)) w14.heap.size ⟨1200, 20000, 13800, 6600, 40, 12400⟩) := Lib.hid (Hd.out.kept ((Kept.refl _).alloc _))
  have He : Hid (Wb (w17.alloc (.cells #[.int .i64 40, .int .i64 12400] 3)) w15.heap.size ⟨1200, 20000, 2400, 6600, -1, 0⟩) := Lib.hid (He.out.kept ((Kept.refl _).alloc _))
  have HL : Hid (Lit (w17.alloc (.cells #[.int .i64 40, .int .i64 12400] 3)) (w17.heap.size) (40) (12400)) := Lib.hid (lit_new w17 (40) (12400))
  have K : Hid (Kept w (w17.alloc (.cells #[.int .i64 40, .int .i64 12400] 3))) := Lib.hid (K.out.alloc _)
  refine (i5.out _ _ HL.out).mono ?_
  rintro e w18 ⟨rfl, hk⟩
  have Ha : Hid (Wb w18 w1.heap.size ⟨1200, 20000, 6600, 6600, 40, 5000⟩) := Lib.hid (Ha.out.kept hk)
  have Hb : Hid (Wb w18 w4.heap.size ⟨1200, 20000, 12000, -1, -1, 0⟩) := Lib.hid (Hb.out.kept hk)
  have Hc : Hid (Wb w18 w13.heap.size ⟨1200, 20000, 7800, 6600, 40, 3400⟩) := Lib.hid (Hc.out.kept hk)
  have Hd : Hid (Wb w18 w14.heap.size ⟨1200, 20000, 13800, 6600, 40, 12400⟩) := Lib.hid (Hd.out.kept hk)
  have He : Hid (Wb w18 w15.heap.size ⟨1200, 20000, 2400, 6600, -1, 0⟩) := Lib.hid (He.out.kept hk)
  have K : Hid (Kept w w18) := Lib.hid (K.out.trans hk)
  clear hk HL
  have ce0 := He.out.cell 0
  have ce1 := He.out.cell 1
  have ce2 := He.out.cell 2
  have ce3 := He.out.cell 3
  have ce4 := He.out.cell 4
  have ce5 := He.out.cell 5
  have te := He.out.lt
  go_wp2_with fail
  clear ce0 ce1 ce2 ce3 ce4 ce5 te
  have Ha : Hid (Wb (w18.alloc (.cells #[.int .i64 (-1), .int .i64 0] 3)) w1.heap.size ⟨1200, 20000, 6600, 6600, 40, 5000⟩) := Lib.hid (Ha.out.kept ((Kept.refl _).alloc _))
  have Hb : Hid (Wb (w18.alloc (.cells #[.int .i64 (-1), .int .i64 0] 3)) w4.heap.size ⟨1200, 20000, 12000, -1, -1, 0⟩) := Lib.hid (Hb.out.kept ((Kept.refl _).alloc _))
  have Hc : Hid (Wb (w18.alloc (.cells #[.int .i64 (-1), .int .i64 0] 3)) w13.heap.size ⟨1200, 20000, 7800, 6600, 40, 3400⟩) := Lib.hid (Hc.out.kept ((Kept.refl _).alloc _))
  have Hd : Hid (Wb (w18.alloc (.cells #[.int .i64 (-1), .int .i64 0] 3)) w14.heap.size ⟨1200, 20000, 13800, 6600, 40, 12400⟩) := Lib.hid (Hd.out.kept ((Kept.refl _).alloc _))
  have He : Hid (Wb (w18.alloc (.cells #[.int .i64 (-1), .int .i64 0] 3)) w15.heap.size ⟨1200, 20000, 2400, 6600, -1, 0⟩) := Lib.hid (He.out.kept ((Kept.refl _).alloc _))
  have HL : Hid (Lit (w18.alloc (.cells #[.int .i64 (-1), .int .i64 0] 3)) (w18.heap.size) (-1) (0)) := Lib.hid (lit_new w18 (-1) (0))
  have K : Hid (Kept w (w18.alloc (.cells #[.int .i64 (-1), .int .i64 0] 3))) := Lib.hid (K.out.alloc _)
  refine (i6.out _ _ HL.out).mono ?_
  rintro e w19 ⟨rfl, hk⟩
  have Ha : Hid (Wb w19 w1.heap.size ⟨1200, 20000, 6600, 6600, 40, 5000⟩) := Lib.hid (Ha.out.kept hk)
  have Hb : Hid (Wb w19 w4.heap.size ⟨1200, 20000, 12000, -1, -1, 0⟩) := Lib.hid (Hb.out.kept hk)
  have Hc : Hid (Wb w19 w13.heap.size ⟨1200, 20000, 7800, 6600, 40, 3400⟩) := Lib.hid (Hc.out.kept hk)
  have Hd : Hid (Wb w19 w14.heap.size ⟨1200, 20000, 13800, 6600, 40, 12400⟩) := Lib.hid (Hd.out.kept hk)
  have He : Hid (Wb w19 w15.heap.size ⟨1200, 20000, 2400, 6600, -1, 0⟩) := Lib.hid (He.out.kept hk)
  have K : Hid (Kept w w19) := Lib.hid (K.out.trans hk)
  clear hk HL
  have cc0 := Hc.out.cell 0
  have cc1 := Hc.out.cell 1
  have cc2 := Hc.out.cell 2
  have cc3 := Hc.out.cell 3
  have cc4 := Hc.out.cell 4
  have cc5 := Hc.out.cell 5
  have tc := Hc.out.lt
  go_wp2_with fail
  clear cc0 cc1 cc2 cc3 cc4 cc5 tc
  refine (q11.out _).mono ?_
  rintro e w20 ⟨rfl, hk⟩
  have Ha : Hid (Wb w20 w1.heap.size ⟨1200, 20000, 6600, 6600, 40, 5000⟩) := Lib.hid (Ha.out.kept hk)
  have Hb : Hid (Wb w20 w4.heap.size ⟨1200, 20000, 12000, -1, -1, 0⟩) := Lib.hid (Hb.out.kept hk)
  have Hc : Hid (Wb w20 w13.heap.size ⟨1200, 20000, 7800, 6600, 40, 3400⟩) := Lib.hid (Hc.out.kept hk)
  have Hd : Hid (Wb w20 w14.heap.size ⟨1200, 20000, 13800, 6600, 40, 12400⟩) := Lib.hid (Hd.out.kept hk)
  have He : Hid (Wb w20 w15.heap.size ⟨1200, 20000, 2400, 6600, -1, 0⟩) := Lib.hid (He.out.kept hk)
  have K : Hid (Kept w w20) := Lib.hid (K.out.trans hk)
  clear hk
  have ce0 := He.out.cell 0
  have ce1 := He.out.cell 1
  have ce2 := He.out.cell 2
  have ce3 := He.out.cell 3
  have ce4 := He.out.cell 4
  have ce5 := He.out.cell 5
  have te := He.out.lt
  go_wp2_with fail
  clear ce0 ce1 ce2 ce3 ce4 ce5 te
  refine (q12.out _).mono ?_
  rintro e w21 ⟨rfl, hk⟩
  have Ha : Hid (Wb w21 w1.heap.size ⟨1200, 20000, 6600, 6600, 40, 5000⟩) := Lib.hid (Ha.out.kept hk)
  have Hb : Hid (Wb w21 w4.heap.size ⟨1200, 20000, 12000, -1, -1, 0⟩) := Lib.hid (Hb.out.kept hk)
  have Hc : Hid (Wb w21 w13.heap.size ⟨1200, 20000, 7800, 6600, 40, 3400⟩) := Lib.hid (Hc.out.kept hk)
  have Hd : Hid (Wb w21 w14.heap.size ⟨1200, 20000, 13800, 6600, 40, 12400⟩) := Lib.hid (Hd.out.kept hk)
  have He : Hid (Wb w21 w15.heap.size ⟨1200, 20000, 2400, 6600, -1, 0⟩) := Lib.hid (He.out.kept hk)
  have K : Hid (Kept w w21) := Lib.hid (K.out.trans hk)
  clear hk
  go_wp2_with fail
  go_ret
  exact ⟨rfl, K.out⟩
end Go.Proofs.Ytchnljebhbaghaa.Win
