/-
  The law FrameReads, walked: Next and Parse answer as the document's own, of all bytes (2000 at most). (Printed by tools/frmreads.py.)
-/
import Derived.Test.YtganelhlpobdjaaDoorFrmP
import Derived.Test.YtganelhlpobdjaaDoorFrmF
import Derived.Test.YtganelhlpobdjaaDoorFrmY
namespace Go.Proofs.YtganelhlpobdjaaDoor.Law
open Go.RowKit SpnM Spn FrmM OctM Oct Frm
set_option linter.unusedVariables false
set_option linter.unusedSimpArgs false

theorem nextP_short {l : List Int} (h : l.length ≤ 4137) : nextP l = FrmM.next l := by unfold nextP; rw [List.take_of_length_le h]
theorem parseP_short {l : List Int} (h : l.length ≤ 4137) : parseP l = FrmM.parse l := by unfold parseP FrmM.parse; rw [nextP_short h]

/-- An ACK in a box, with its row. -/
structure Bx (W : World) (g : Nat) (A : Option Addr) (c : Nat) (a : Ack) : Prop where
  blk : Wd.Blk W g 25 (ackA A a.ranges.length c a)
  row : Row W A a.ranges.length c a.ranges
theorem Bx.kept {W W' : World} {g : Nat} {A : Option Addr} {c : Nat} {a : Ack} (h : Bx W g A c a) (k : Wd.Kept W W') : Bx W' g A c a := ⟨h.blk.kept k, h.row.kept k⟩
theorem Bx.cells {W : World} {g : Nat} {A : Option Addr} {c : Nat} {a : Ack} (h : Bx W g A c a) : W.cell? ⟨g, 0, none⟩ = some (.int .i64 a.delay) ∧ W.cell? ⟨g, 1, none⟩ = some (.slice A a.ranges.length c) ∧ W.cell? ⟨g, 2, none⟩ = some (.bool a.marked) ∧ W.cell? ⟨g, 3, none⟩ = some (.int .i64 a.m0) ∧ W.cell? ⟨g, 4, none⟩ = some (.int .i64 a.m1) ∧ W.cell? ⟨g, 5, none⟩ = some (.int .i64 a.m2) :=
  ⟨h.blk.cell 0, h.blk.cell 1, h.blk.cell 2, h.blk.cell 3, h.blk.cell 4, h.blk.cell 5⟩
theorem Bx.of {W : World} {base : Nat} {a : Ack} {V : Value} (h : AckAt W base a V) : ∃ A c, V = ackV A a.ranges.length c a ∧ Bx (W.alloc (.cells (ackA A a.ranges.length c a) 25)) W.heap.size A c a := by
  obtain ⟨A, c, rfl, row⟩ := h
  obtain ⟨A', c', e2, r, -⟩ := Row.of_own row rfl
  injection e2 with e3 e4 e5
  subst e3; subst e5
  exact ⟨A, c, rfl, Wd.Blk.new _ _ _, r.kept ((Wd.Kept.refl W).alloc _)⟩

set_option maxRecDepth 100000 in
set_option maxHeartbeats 2000000 in
theorem reads_at (A : Option Addr) (m c : Nat) (l : List Int) (w : World) (hT : Tab w) (hb : Byt w A (min (m : Int) 2000).toNat c l) (hm : m ≤ c) (hc : c ≤ 9223372036854775807) :
    Calls Tryd.prog 4 #[.slice A m c] w fun r w' => r = .returned (.bool true) ∧ Wd.Kept w w' := by
  have hn : (min (m : Int) 2000).toNat ≤ 2000 := by omega
  have hnc : (min (m : Int) 2000) = (((min (m : Int) 2000).toNat : Nat) : Int) := by omega
  have hnb : l.length ≤ 2000 := by rw [hb.len]; exact hn
  have HT := Lib.hid hT
  have hcp := Lib.hid (copy_any A _ c l w hb (by omega))
  obtain ⟨⟨a, cnt, e1⟩, HQ⟩ : ∃ Q, Hid (FrmM.next l = Q) := ⟨_, Lib.hid rfl⟩
  obtain ⟨⟨p, e2⟩, HR⟩ : ∃ Q, Hid (FrmM.parse l = Q) := ⟨_, Lib.hid rfl⟩
  have HQ1 : Hid (nextP l = (a, cnt, e1)) := Lib.hid (by rw [nextP_short (by omega)]; exact HQ.out)
  have HR1 : Hid (parseP l = (p, e2)) := Lib.hid (by rw [parseP_short (by omega)]; exact HR.out)
  clear hT hb hnc
  go_enter Tryd.func4, Tryd.ntmps4
  go_wp2_with fail
  with_reducible refine hcp.out.mono ?_
  rintro e w1 ⟨v1, rfl, o1, k1⟩
  obtain ⟨A1, c1, rfl, y1, -⟩ := o1.byt
  have hc2 := Lib.hid (copy_any A1 _ c1 l w1 y1 (by omega))
  have Y1 := Lib.hid y1
  have K1 := Lib.hid k1
  clear o1 k1 y1 hcp
  go_wp2_with fail
  with_reducible refine hc2.out.mono ?_
  rintro e w2 ⟨v2, rfl, o2, k2⟩
  obtain ⟨A2, c2, rfl, y2, -⟩ := o2.byt
  have YA := Lib.hid (Y1.out.kept k2)
  have YB := Lib.hid y2
  have KK := Lib.hid (K1.out.trans k2)
  clear o2 k2 y2 hc2 Y1 K1
  have hc3 := Lib.hid (next_any A1 _ c1 l w2 (HT.out.kept KK.out) YA.out (by omega))
  go_wp2_with fail
  with_reducible refine hc3.out.mono ?_
  rintro e w3 ⟨V, rfl, hA, k3⟩
  rw [HQ1.out] at hA ⊢
  simp only at hA
  obtain ⟨B0, d0, rfl, bx⟩ := Bx.of hA
  have kk := k3.trans ((Wd.Kept.refl w3).alloc (.cells (ackA B0 a.ranges.length d0 a) 25))
  have X0 := Lib.hid bx
  have YA := Lib.hid (YA.out.kept kk)
  have YB := Lib.hid (YB.out.kept kk)
  have KK := Lib.hid (KK.out.trans kk)
  clear hA kk k3 bx hc3
  have hcx : Hid (ackV B0 a.ranges.length d0 a = .agg #[.int .i64 a.delay, .slice B0 a.ranges.length d0, .bool a.marked, .int .i64 a.m0, .int .i64 a.m1, .int .i64 a.m2]) := Lib.hid rfl
  rw [hcx.out]
  unfold ackA at X0 YA YB KK
  have hc3 := Lib.hid (rnext_any A2 _ c2 l _ YB.out (by omega))
  go_wp2_with fail
  generalize (w3.alloc (.cells #[.int .i64 a.delay, .slice B0 a.ranges.length d0, .bool a.marked, .int .i64 a.m0, .int .i64 a.m1, .int .i64 a.m2] 25)) = v0 at *
  generalize hg0 : w3.heap.size = g0 at *
  clear hg0
  with_reducible refine hc3.out.mono ?_
  rintro e w5 ⟨V, rfl, hA, k3⟩
  rw [HQ.out] at hA ⊢
  simp only at hA
  obtain ⟨B1, d1, rfl, bx⟩ := Bx.of hA
  have kk := k3.trans ((Wd.Kept.refl w5).alloc (.cells (ackA B1 a.ranges.length d1 a) 25))
  have X1 := Lib.hid bx
  have YA := Lib.hid (YA.out.kept kk)
  have YB := Lib.hid (YB.out.kept kk)
  have KK := Lib.hid (KK.out.trans kk)
  have X0 := Lib.hid (X0.out.kept kk)
  clear hA kk k3 bx hc3
  have hcx : Hid (ackV B1 a.ranges.length d1 a = .agg #[.int .i64 a.delay, .slice B1 a.ranges.length d1, .bool a.marked, .int .i64 a.m0, .int .i64 a.m1, .int .i64 a.m2]) := Lib.hid rfl
  rw [hcx.out]
  unfold ackA at X1 YA YB KK X0
  have hc3 := Lib.hid (parse_any A1 _ c1 l _ (HT.out.kept KK.out) YA.out (by omega))
  go_wp2_with fail
  generalize (w5.alloc (.cells #[.int .i64 a.delay, .slice B1 a.ranges.length d1, .bool a.marked, .int .i64 a.m0, .int .i64 a.m1, .int .i64 a.m2] 25)) = v1 at *
  generalize hg1 : w5.heap.size = g1 at *
  clear hg1
  with_reducible refine hc3.out.mono ?_
  rintro e w7 ⟨V, rfl, hA, k3⟩
  rw [HR1.out] at hA ⊢
  simp only at hA
  obtain ⟨B2, d2, rfl, bx⟩ := Bx.of hA
  have kk := k3.trans ((Wd.Kept.refl w7).alloc (.cells (ackA B2 p.ranges.length d2 p) 25))
  have X2 := Lib.hid bx
  have YA := Lib.hid (YA.out.kept kk)
  have YB := Lib.hid (YB.out.kept kk)
  have KK := Lib.hid (KK.out.trans kk)
  have X0 := Lib.hid (X0.out.kept kk)
  have X1 := Lib.hid (X1.out.kept kk)
  clear hA kk k3 bx hc3
  have hcx : Hid (ackV B2 p.ranges.length d2 p = .agg #[.int .i64 p.delay, .slice B2 p.ranges.length d2, .bool p.marked, .int .i64 p.m0, .int .i64 p.m1, .int .i64 p.m2]) := Lib.hid rfl
  rw [hcx.out]
  unfold ackA at X2 YA YB KK X0 X1
  have hc3 := Lib.hid (rparse_any A2 _ c2 l _ YB.out (by omega))
  go_wp2_with fail
  generalize (w7.alloc (.cells #[.int .i64 p.delay, .slice B2 p.ranges.length d2, .bool p.marked, .int .i64 p.m0, .int .i64 p.m1, .int .i64 p.m2] 25)) = v2 at *
  generalize hg2 : w7.heap.size = g2 at *
  clear hg2
  with_reducible refine hc3.out.mono ?_
  rintro e w9 ⟨V, rfl, hA, k3⟩
  rw [HR.out] at hA ⊢
  simp only at hA
  obtain ⟨B3, d3, rfl, bx⟩ := Bx.of hA
  have kk := k3.trans ((Wd.Kept.refl w9).alloc (.cells (ackA B3 p.ranges.length d3 p) 25))
  have X3 := Lib.hid bx
  have YA := Lib.hid (YA.out.kept kk)
  have YB := Lib.hid (YB.out.kept kk)
  have KK := Lib.hid (KK.out.trans kk)
  have X0 := Lib.hid (X0.out.kept kk)
  have X1 := Lib.hid (X1.out.kept kk)
  have X2 := Lib.hid (X2.out.kept kk)
  clear hA kk k3 bx hc3
  have hcx : Hid (ackV B3 p.ranges.length d3 p = .agg #[.int .i64 p.delay, .slice B3 p.ranges.length d3, .bool p.marked, .int .i64 p.m0, .int .i64 p.m1, .int .i64 p.m2]) := Lib.hid rfl
  rw [hcx.out]
  unfold ackA at X3 YA YB KK X0 X1 X2
  obtain ⟨p00, p01, p02, p03, p04, p05⟩ := X0.out.cells
  obtain ⟨p10, p11, p12, p13, p14, p15⟩ := X1.out.cells
  obtain ⟨p20, p21, p22, p23, p24, p25⟩ := X2.out.cells
  obtain ⟨p30, p31, p32, p33, p34, p35⟩ := X3.out.cells
  have hs1 := rsame_any B0 B1 _ d0 _ d1 a a _ X0.out.row X1.out.row
  rw [sameA_self] at hs1
  unfold ackV at hs1
  have hs1 := Lib.hid hs1
  go_upto_region 7 with (fail)
  generalize (w9.alloc (.cells #[.int .i64 p.delay, .slice B3 p.ranges.length d3, .bool p.marked, .int .i64 p.m0, .int .i64 p.m1, .int .i64 p.m2] 25)) = v3 at *
  generalize hg3 : w9.heap.size = g3 at *
  clear hg3
  go_wp2_with fail
  with_reducible refine hs1.out.mono ?_
  rintro e x1 ⟨rfl, kx⟩
  have YA := Lib.hid (YA.out.kept kx)
  have YB := Lib.hid (YB.out.kept kx)
  have KK := Lib.hid (KK.out.trans kx)
  have X2 := Lib.hid (X2.out.kept kx)
  have X3 := Lib.hid (X3.out.kept kx)
  obtain ⟨p20, p21, p22, p23, p24, p25⟩ := X2.out.cells
  obtain ⟨p30, p31, p32, p33, p34, p35⟩ := X3.out.cells
  have hs2 := rsame_any B2 B3 _ d2 _ d3 p p _ X2.out.row X3.out.row
  rw [sameA_self] at hs2
  unfold ackV at hs2
  have hs2 := Lib.hid hs2
  clear kx hs1
  go_wp2_with fail
  with_reducible refine hs2.out.mono ?_
  rintro e x2 ⟨rfl, kx⟩
  have YA := Lib.hid (YA.out.kept kx)
  have YB := Lib.hid (YB.out.kept kx)
  have KK := Lib.hid (KK.out.trans kx)
  have heq := eq_any A1 A2 _ c1 _ c2 l l x2 YA.out YB.out
  rw [Oct.same_self] at heq
  have heq := Lib.hid heq
  clear kx hs2
  go_wp2_with fail
  with_reducible refine heq.out.mono ?_
  rintro e x3 ⟨rfl, rfl⟩
  have hwk := Lib.hid (works_any x2 (HT.out.kept KK.out))
  clear heq
  go_wp2_with fail
  with_reducible refine hwk.out.mono ?_
  rintro e x4 ⟨rfl, k8⟩
  have K8 := Lib.hid (KK.out.trans k8)
  clear k8
  go_wp2_with fail
  go_ret
  exact ⟨rfl, K8.out⟩

theorem frameReads_any (A : Option Addr) (m c : Nat) (l : List Int) (w : World) (hT : Tab w) (hb : Byt w A m c l) : Calls Tryd.prog 4 #[.slice A m c] w fun r w' => r = .returned (.bool true) ∧ Wd.Kept w w' := by
  have hm := hb.most
  unfold maxLen at hm
  exact reads_at A m c _ w hT (hb.upto (min (m : Int) 2000).toNat (by omega)) hb.cap (by omega)

end Go.Proofs.YtganelhlpobdjaaDoor.Law
