/-
  Contract of the document's own Parse: of all bytes.
-/
import Derived.Test.YtganelhlpobdjaaDoorFrmJ
namespace Go.Proofs.YtganelhlpobdjaaDoor.Frm
open Go.RowKit SpnM Spn FrmM OctM Oct
set_option linter.unusedVariables false
set_option linter.unusedSimpArgs false

/-- What the document's Parse returns. -/
def ParseQ (l : List Int) (w : World) (e : Ending) (w' : World) : Prop :=
  ∃ V, e = .returned (.tuple #[V, .int .i64 (FrmM.parse l).2]) ∧ AckAt w' w.heap.size (FrmM.parse l).1 V ∧ Wd.Kept w w'
theorem rparse_err {l : List Int} {a : Ack} {k e : Int} (h : FrmM.next l = (a, k, e)) (he : e ≠ 0) : FrmM.parse l = (zero, e) := by unfold FrmM.parse; rw [h, if_pos he]
theorem rparse_left {l : List Int} {a : Ack} {k : Int} (h : FrmM.next l = (a, k, 0)) (hk : k < l.length) : FrmM.parse l = (zero, 4) := by unfold FrmM.parse; rw [h, if_neg (by simp), if_pos hk]
theorem rparse_ok {l : List Int} {a : Ack} {k : Int} (h : FrmM.next l = (a, k, 0)) (hk : ¬ k < l.length) : FrmM.parse l = (a, 0) := by unfold FrmM.parse; rw [h, if_neg (by simp), if_neg hk]

set_option maxRecDepth 100000 in
set_option maxHeartbeats 1000000 in
theorem rparse_any (A : Option Addr) (n c : Nat) (l : List Int) (w : World) (hb : Byt w A n c l) (hbig : n ≤ 140737488355328) : Calls Tryd.prog 28 #[.slice A n c] w (ParseQ l w) := by
  have hlen := hb.len
  have k0 := (Wd.Kept.refl w).alloc (.cells #[.int .i64 0, .slice none 0 0, .bool false, .int .i64 0, .int .i64 0, .int .i64 0] 25)
  have b0 := Wd.Blk.new w 25 #[.int .i64 0, .slice none 0 0, .bool false, .int .i64 0, .int .i64 0, .int .i64 0]
  obtain ⟨w0, hw0⟩ : ∃ w0, w.alloc (.cells #[.int .i64 0, .slice none 0 0, .bool false, .int .i64 0, .int .i64 0, .int .i64 0] 25) = w0 := ⟨_, rfl⟩
  have s0 : w0.heap.size = w.heap.size + 1 := by rw [← hw0]; simp
  rw [hw0] at k0 b0
  have hnx := Lib.hid (rnext_any A n c l w0 (hb.kept k0) hbig)
  have K0 := Lib.hid k0
  have B0 := Lib.hid b0
  clear hb k0 b0
  go_enter Tryd.func28, Tryd.ntmps28
  go_wp2_with fail
  refine hnx.out.mono ?_
  rintro e w1 ⟨V, rfl, ⟨A1, c1, rfl, row1⟩, hk1⟩
  have B1 := Lib.hid (B0.out.kept hk1)
  have K1 := Lib.hid (K0.out.trans hk1)
  have ROW1 := Lib.hid (ownsRow_more row1 (b' := w.heap.size) (by omega))
  have z1 := hk1.size
  have HE := Lib.hid (fun he => rparse_err (l := l) (a := (FrmM.next l).1) (k := (FrmM.next l).2.1) (e := (FrmM.next l).2.2) rfl he)
  have HL := Lib.hid (fun he hk => rparse_left (l := l) (a := (FrmM.next l).1) (k := (FrmM.next l).2.1) (Prod.ext rfl (Prod.ext rfl he)) hk)
  have HO := Lib.hid (fun he hk => rparse_ok (l := l) (a := (FrmM.next l).1) (k := (FrmM.next l).2.1) (Prod.ext rfl (Prod.ext rfl he)) hk)
  generalize FrmM.next l = Q at *
  obtain ⟨a, k, e⟩ := Q
  simp only at *
  unfold ackV
  have kk := (Wd.Kept.refl w1).alloc (.cells #[.int .i64 a.delay, .slice A1 a.ranges.length c1, .bool a.marked, .int .i64 a.m0, .int .i64 a.m1, .int .i64 a.m2] 25)
  have B2 := Lib.hid (B1.out.kept kk)
  have P2 := Lib.hid (Wd.Blk.new w1 25 #[.int .i64 a.delay, .slice A1 a.ranges.length c1, .bool a.marked, .int .i64 a.m0, .int .i64 a.m1, .int .i64 a.m2])
  have K2 := Lib.hid (K1.out.trans kk)
  have ROW2 := Lib.hid (ROW1.out.alloc (.cells #[.int .i64 a.delay, .slice A1 a.ranges.length c1, .bool a.marked, .int .i64 a.m0, .int .i64 a.m1, .int .i64 a.m2] 25))
  have q0 := B2.out.cell 0
  have q1 := B2.out.cell 1
  have q2 := B2.out.cell 2
  have q3 := B2.out.cell 3
  have q4 := B2.out.cell 4
  have q5 := B2.out.cell 5
  have f0 := B2.out.frozen 0
  have f1 := B2.out.frozen 1
  have f2 := B2.out.frozen 2
  have f3 := B2.out.frozen 3
  have f4 := B2.out.frozen 4
  have f5 := B2.out.frozen 5
  have p0 := P2.out.cell 0
  have p1 := P2.out.cell 1
  have p2 := P2.out.cell 2
  have p3 := P2.out.cell 3
  have p4 := P2.out.cell 4
  have p5 := P2.out.cell 5
  clear row1 hk1 hnx K0 B0 hw0 kk B1 K1 ROW1
  by_cases he : e = 0
  · subst he
    have HL := Lib.hid (HL.out (by first | rfl | trivial))
    have HO := Lib.hid (HO.out (by first | rfl | trivial))
    by_cases hk : k < (n : Int)
    · have HP := Lib.hid (HL.out (by rw [hlen]; exact hk))
      clear HL HO HE
      go_wp2_with fail
      have B6 := set6_blk B2.out (.int .i64 0) (.slice none 0 0) (.bool false) (.int .i64 0) (.int .i64 0) (.int .i64 0)
      have G6 := set6_grown (w1.alloc (.cells #[.int .i64 a.delay, .slice A1 a.ranges.length c1, .bool a.marked, .int .i64 a.m0, .int .i64 a.m1, .int .i64 a.m2] 25)) w.heap.size (.int .i64 0) (.slice none 0 0) (.bool false) (.int .i64 0) (.int .i64 0) (.int .i64 0)
      have KF : Wd.Kept w _ := Wd.Kept.grown K2.out G6 (fun i e => by have := Option.some.inj e; omega)
      change bodyPost _ _ _ _ _ (set6 (w1.alloc (.cells #[.int .i64 a.delay, .slice A1 a.ranges.length c1, .bool a.marked, .int .i64 a.m0, .int .i64 a.m1, .int .i64 a.m2] 25)) w.heap.size _ _ _ _ _ _)
      generalize set6 (w1.alloc (.cells #[.int .i64 a.delay, .slice A1 a.ranges.length c1, .bool a.marked, .int .i64 a.m0, .int .i64 a.m1, .int .i64 a.m2] 25)) w.heap.size (.int .i64 0) (.slice none 0 0) (.bool false) (.int .i64 0) (.int .i64 0) (.int .i64 0) = W at *
      have r0 := B6.cell 0
      have r1 := B6.cell 1
      have r2 := B6.cell 2
      have r3 := B6.cell 3
      have r4 := B6.cell 4
      have r5 := B6.cell 5
      refine bodyPost_ret (v := .tuple #[.agg #[.int .i64 0, .slice none 0 0, .bool false, .int .i64 0, .int .i64 0, .int .i64 0], .int .i64 4]) ?_ rfl ?_
      · simp [results, Tryd.f28, go_sem, r0, r1, r2, r3, r4, r5]
      · unfold ParseQ
        rw [HP.out]
        exact ⟨_, rfl, ackAt_zero _ _, KF⟩
    · have HP := Lib.hid (HO.out (by rw [hlen]; exact hk))
      have hk' : (n : Int) ≤ k := by omega
      clear HL HO HE hk
      go_wp2_with fail
      have B6 := set6_blk B2.out (.int .i64 a.delay) (.slice A1 a.ranges.length c1) (.bool a.marked) (.int .i64 a.m0) (.int .i64 a.m1) (.int .i64 a.m2)
      have G6 := set6_grown (w1.alloc (.cells #[.int .i64 a.delay, .slice A1 a.ranges.length c1, .bool a.marked, .int .i64 a.m0, .int .i64 a.m1, .int .i64 a.m2] 25)) w.heap.size (.int .i64 a.delay) (.slice A1 a.ranges.length c1) (.bool a.marked) (.int .i64 a.m0) (.int .i64 a.m1) (.int .i64 a.m2)
      have KF : Wd.Kept w _ := Wd.Kept.grown K2.out G6 (fun i e => by have := Option.some.inj e; omega)
      have ROW6 := own_set6 ROW2.out B2.out (.int .i64 a.delay) (.slice A1 a.ranges.length c1) (.bool a.marked) (.int .i64 a.m0) (.int .i64 a.m1) (.int .i64 a.m2)
      change bodyPost _ _ _ _ _ (set6 (w1.alloc (.cells #[.int .i64 a.delay, .slice A1 a.ranges.length c1, .bool a.marked, .int .i64 a.m0, .int .i64 a.m1, .int .i64 a.m2] 25)) w.heap.size _ _ _ _ _ _)
      generalize set6 (w1.alloc (.cells #[.int .i64 a.delay, .slice A1 a.ranges.length c1, .bool a.marked, .int .i64 a.m0, .int .i64 a.m1, .int .i64 a.m2] 25)) w.heap.size (.int .i64 a.delay) (.slice A1 a.ranges.length c1) (.bool a.marked) (.int .i64 a.m0) (.int .i64 a.m1) (.int .i64 a.m2) = W at *
      have r0 := B6.cell 0
      have r1 := B6.cell 1
      have r2 := B6.cell 2
      have r3 := B6.cell 3
      have r4 := B6.cell 4
      have r5 := B6.cell 5
      refine bodyPost_ret (v := .tuple #[.agg #[.int .i64 a.delay, .slice A1 a.ranges.length c1, .bool a.marked, .int .i64 a.m0, .int .i64 a.m1, .int .i64 a.m2], .int .i64 0]) ?_ rfl ?_
      · simp [results, Tryd.f28, go_sem, r0, r1, r2, r3, r4, r5]
      · unfold ParseQ
        rw [HP.out]
        exact ⟨_, rfl, ⟨A1, c1, rfl, ROW6⟩, KF⟩
  · have hz : (e == 0) = false := by simp [he]
    have HP := Lib.hid (HE.out he)
    clear he HL HO HE
    go_wp2_with fail
    have B6 := set6_blk B2.out (.int .i64 0) (.slice none 0 0) (.bool false) (.int .i64 0) (.int .i64 0) (.int .i64 0)
    have G6 := set6_grown (w1.alloc (.cells #[.int .i64 a.delay, .slice A1 a.ranges.length c1, .bool a.marked, .int .i64 a.m0, .int .i64 a.m1, .int .i64 a.m2] 25)) w.heap.size (.int .i64 0) (.slice none 0 0) (.bool false) (.int .i64 0) (.int .i64 0) (.int .i64 0)
    have KF : Wd.Kept w _ := Wd.Kept.grown K2.out G6 (fun i e => by have := Option.some.inj e; omega)
    change bodyPost _ _ _ _ _ (set6 (w1.alloc (.cells #[.int .i64 a.delay, .slice A1 a.ranges.length c1, .bool a.marked, .int .i64 a.m0, .int .i64 a.m1, .int .i64 a.m2] 25)) w.heap.size _ _ _ _ _ _)
    generalize set6 (w1.alloc (.cells #[.int .i64 a.delay, .slice A1 a.ranges.length c1, .bool a.marked, .int .i64 a.m0, .int .i64 a.m1, .int .i64 a.m2] 25)) w.heap.size (.int .i64 0) (.slice none 0 0) (.bool false) (.int .i64 0) (.int .i64 0) (.int .i64 0) = W at *
    have r0 := B6.cell 0
    have r1 := B6.cell 1
    have r2 := B6.cell 2
    have r3 := B6.cell 3
    have r4 := B6.cell 4
    have r5 := B6.cell 5
    refine bodyPost_ret (v := .tuple #[.agg #[.int .i64 0, .slice none 0 0, .bool false, .int .i64 0, .int .i64 0, .int .i64 0], .int .i64 e]) ?_ rfl ?_
    · simp [results, Tryd.f28, go_sem, r0, r1, r2, r3, r4, r5]
    · unfold ParseQ
      rw [HP.out]
      exact ⟨_, rfl, ackAt_zero _ _, KF⟩

end Go.Proofs.YtganelhlpobdjaaDoor.Frm
