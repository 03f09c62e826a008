/-
  The law FrameAgain, walked: what is read may be, is written in as few bytes, or fewer, and read as the same.
-/
import Derived.Test.YtgbeankindcloaaDoorFrmY
namespace Go.Proofs.YtgbeankindcloaaDoor.Law
open Go.RowKit SpnM Spn FrmM OctM Oct Frm
set_option linter.unusedVariables false
set_option linter.unusedSimpArgs false

theorem next_short {l : List Int} (h : l.length ≤ 4137) : nextP l = FrmM.next l := by unfold nextP; rw [List.take_of_length_le h]
theorem parse_short {l : List Int} (h : l.length ≤ 4137) : parseP l = FrmM.parse l := by unfold parseP FrmM.parse; rw [next_short h]
/-- What is read, written, and read again. -/
theorem again {l : List Int} (hb : allByte l) (hl : l.length ≤ 2000) (h : (nextP l).2.2 = 0) :
    Valid (nextP l).1 ∧ 1 ≤ (nextP l).2.1 ∧ (nextP l).2.1 ≤ l.length ∧ ((FrmM.bytes (nextP l).1).length : Int) ≤ (nextP l).2.1 ∧ parseP (FrmM.bytes (nextP l).1) = ((nextP l).1, 0) := by
  rw [next_short (by omega)] at h ⊢
  obtain ⟨h1, h2, h3, h4⟩ := next_made l hb h
  exact ⟨h1, h2, h3, h4, by rw [parse_short (bytes_length h1).2]; exact parse_back h1⟩
theorem not_again {l : List Int} (hl : l.length ≤ 2000) (h : (nextP l).2.2 ≠ 0) : (nextP l).1 = zero ∧ (nextP l).2.1 = 0 := by
  rw [next_short (by omega)] at h ⊢
  exact FrmM.next_err l h

set_option maxRecDepth 100000 in
set_option maxHeartbeats 400000 in
theorem again_at (A : Option Addr) (m c : Nat) (l : List Int) (w : World) (hT : Tab w) (hb : Byt w A (min (m : Int) 2000).toNat c l) (hm : m ≤ c) (hc : c ≤ 9223372036854775807) :
    Calls Tryd.prog 7 #[.slice A m c] w fun r w' => r = .returned (.bool true) ∧ Wd.Kept w w' := by
  have hn : (min (m : Int) 2000).toNat ≤ 2000 := by omega
  have hnc : (min (m : Int) 2000) = (((min (m : Int) 2000).toNat : Nat) : Int) := by omega
  have hlen := hb.len
  have hbt := hb.byte
  have HT := Lib.hid hT
  have hnx := Lib.hid (next_any A _ c l w hT hb (by omega))
  have HA := Lib.hid (fun h => again hbt (by omega) h)
  have HN := Lib.hid (fun h => not_again (l := l) (by omega) h)
  have HL := Lib.hid hlen
  clear hT hb hbt hlen hnc
  go_enter Tryd.func7, Tryd.ntmps7
  go_wp2_with fail
  with_reducible refine hnx.out.mono ?_
  rintro e w1 ⟨V, rfl, ⟨A1, c1, rfl, row1⟩, k1⟩
  generalize (min (m : Int) 2000).toNat = n at *
  generalize nextP l = Q at *
  obtain ⟨a, cnt, e1⟩ := Q
  simp only at *
  unfold ackV
  obtain ⟨A1', c1', e2, rw1, -⟩ := Row.of_own row1 rfl
  injection e2 with e3 e4 e5
  subst e3; subst e5
  have kk := (Wd.Kept.refl w1).alloc (.cells #[.int .i64 a.delay, .slice A1 a.ranges.length c1, .bool a.marked, .int .i64 a.m0, .int .i64 a.m1, .int .i64 a.m2] 25)
  have P2 := Lib.hid (Wd.Blk.new w1 25 #[.int .i64 a.delay, .slice A1 a.ranges.length c1, .bool a.marked, .int .i64 a.m0, .int .i64 a.m1, .int .i64 a.m2])
  have K2 := Lib.hid (k1.trans kk)
  have R2 := Lib.hid (rw1.kept kk)
  clear row1 rw1 k1 kk hnx
  by_cases he : e1 = 0
  · subst he
    obtain ⟨g1, g2, g3, g4, g5⟩ := HA.out (by first | rfl | trivial)
    have G1 := Lib.hid g1
    have G5 := Lib.hid g5
    have p0 := P2.out.cell 0
    have p1 := P2.out.cell 1
    have p2 := P2.out.cell 2
    have p3 := P2.out.cell 3
    have p4 := P2.out.cell 4
    have p5 := P2.out.cell 5
    have hby := bytes_any A1 a.ranges.length c1 a _ (Rgs.of_row R2.out) R2.out.lt (HT.out.kept K2.out)
    unfold ackV at hby
    have hby := Lib.hid hby
    clear HA HN g1 g5
    go_wp2_with fail
    generalize w1.alloc (.cells #[.int .i64 a.delay, .slice A1 a.ranges.length c1, .bool a.marked, .int .i64 a.m0, .int .i64 a.m1, .int .i64 a.m2] 25) = w2 at *
    generalize hg3 : w1.heap.size = g3' at *
    clear hg3
    with_reducible refine hby.out.mono ?_
    rintro e w3 ⟨v3, rfl, o3, k3⟩
    rw [check_ok G1.out]
    unfold bytesOut at o3
    rw [if_pos G1.out] at o3
    obtain ⟨A3, c3, rfl, y3, -⟩ := o3.byt
    have P3 := Lib.hid (P2.out.kept k3)
    have K3 := Lib.hid (K2.out.trans k3)
    have R3 := Lib.hid (R2.out.kept k3)
    have hbl := bytes_length G1.out
    have hpa := Lib.hid (parse_any A3 _ c3 (FrmM.bytes a) w3 (HT.out.kept K3.out) y3 (by omega))
    clear o3 k3 y3 hby P2 K2 R2 p0 p1 p2 p3 p4 p5
    generalize hnb : (FrmM.bytes a).length = nb at *
    clear hnb
    go_wp2_with fail
    with_reducible refine hpa.out.mono ?_
    rintro e w4 ⟨V4, rfl, h4, k4⟩
    rw [G5.out] at h4 ⊢
    obtain ⟨A4, c4, rfl, row4⟩ := h4
    obtain ⟨A4', c4', e2, rw4, -⟩ := Row.of_own row4 rfl
    injection e2 with e3 e4 e5
    subst e3; subst e5
    have hcx : Hid (ackV A4 a.ranges.length c4 a = .agg #[.int .i64 a.delay, .slice A4 a.ranges.length c4, .bool a.marked, .int .i64 a.m0, .int .i64 a.m1, .int .i64 a.m2]) := Lib.hid rfl
    rw [hcx.out]
    have kk := (Wd.Kept.refl w4).alloc (.cells #[.int .i64 a.delay, .slice A4 a.ranges.length c4, .bool a.marked, .int .i64 a.m0, .int .i64 a.m1, .int .i64 a.m2] 25)
    have Q5 := Lib.hid (Wd.Blk.new w4 25 #[.int .i64 a.delay, .slice A4 a.ranges.length c4, .bool a.marked, .int .i64 a.m0, .int .i64 a.m1, .int .i64 a.m2])
    have P5 := Lib.hid (P3.out.kept (k4.trans kk))
    have K5 := Lib.hid (K3.out.trans (k4.trans kk))
    have R5 := Lib.hid (R3.out.kept (k4.trans kk))
    have S5 := Lib.hid (rw4.kept kk)
    have p0 := P5.out.cell 0
    have p1 := P5.out.cell 1
    have p2 := P5.out.cell 2
    have p3 := P5.out.cell 3
    have p4 := P5.out.cell 4
    have p5 := P5.out.cell 5
    have HL2 : Hid (cnt ≤ (n : Int)) := Lib.hid (by have := HL.out; omega)
    have hl2 := HL2.out
    have hck := check_any A1 _ c1 a _ (Rgs.of_row R5.out) R5.out.lt
    unfold ackV at hck
    rw [check_ok G1.out] at hck
    have hck := Lib.hid hck
    clear k4 kk row4 rw4 hpa P3 K3 R3 hcx
    go_wp2_with fail
    generalize w4.alloc (.cells #[.int .i64 a.delay, .slice A4 a.ranges.length c4, .bool a.marked, .int .i64 a.m0, .int .i64 a.m1, .int .i64 a.m2] 25) = w5 at *
    generalize hg8 : w4.heap.size = g8 at *
    clear hg8
    with_reducible refine hck.out.mono ?_
    rintro e w6 ⟨rfl, k6⟩
    have P6 := Lib.hid (P5.out.kept k6)
    have Q6 := Lib.hid (Q5.out.kept k6)
    have K6 := Lib.hid (K5.out.trans k6)
    have hsm := same_any A1 A4 _ c1 _ c4 a a w6 (R5.out.kept k6) (S5.out.kept k6)
    rw [sameA_self] at hsm
    unfold ackV at hsm
    have hsm := Lib.hid hsm
    have p0 := P6.out.cell 0
    have p1 := P6.out.cell 1
    have p2 := P6.out.cell 2
    have p3 := P6.out.cell 3
    have p4 := P6.out.cell 4
    have p5 := P6.out.cell 5
    have q0 := Q6.out.cell 0
    have q1 := Q6.out.cell 1
    have q2 := Q6.out.cell 2
    have q3 := Q6.out.cell 3
    have q4 := Q6.out.cell 4
    have q5 := Q6.out.cell 5
    clear k6 hck P5 Q5 K5 R5 S5
    go_wp2_with fail
    with_reducible refine hsm.out.mono ?_
    rintro e w7 ⟨rfl, k7⟩
    have K7 := Lib.hid (K6.out.trans k7)
    have hwk := Lib.hid (works_any w7 (HT.out.kept K7.out))
    clear k7 hsm
    go_wp2_with fail
    with_reducible refine hwk.out.mono ?_
    rintro e w8 ⟨rfl, k8⟩
    have K8 := Lib.hid (K7.out.trans k8)
    clear k8
    go_wp2_with fail
    go_ret
    exact ⟨rfl, K8.out⟩
  · have hz : (e1 == 0) = false := by simp [he]
    obtain ⟨g1, g2⟩ := HN.out he
    subst g1; subst g2
    have p0 := P2.out.cell 0
    have p1 := P2.out.cell 1
    have p2 := P2.out.cell 2
    have p3 := P2.out.cell 3
    have p4 := P2.out.cell 4
    have p5 := P2.out.cell 5
    have hsm := same_any A1 none _ c1 0 0 zero zero _ R2.out (Row.nil _)
    rw [sameA_self] at hsm
    have hcx : ackV A1 zero.ranges.length c1 zero = .agg #[.int .i64 zero.delay, .slice A1 zero.ranges.length c1, .bool zero.marked, .int .i64 zero.m0, .int .i64 zero.m1, .int .i64 zero.m2] := rfl
    have hcz : ackV none 0 0 zero = .agg #[.int .i64 0, .slice none 0 0, .bool false, .int .i64 0, .int .i64 0, .int .i64 0] := rfl
    rw [hcx, hcz] at hsm
    have hsm := Lib.hid hsm
    clear he HA HN hcx hcz
    go_wp2_with fail
    with_reducible refine hsm.out.mono ?_
    rintro e w7 ⟨rfl, k7⟩
    have K7 := Lib.hid (K2.out.trans k7)
    have hwk := Lib.hid (works_any w7 (HT.out.kept K7.out))
    clear k7 hsm
    go_wp2_with fail
    with_reducible refine hwk.out.mono ?_
    rintro e w8 ⟨rfl, k8⟩
    have K8 := Lib.hid (K7.out.trans k8)
    clear k8
    go_wp2_with fail
    go_ret
    exact ⟨rfl, K8.out⟩

theorem frameAgain_any (A : Option Addr) (m c : Nat) (l : List Int) (w : World) (hT : Tab w) (hb : Byt w A m c l) : Calls Tryd.prog 7 #[.slice A m c] w fun r w' => r = .returned (.bool true) ∧ Wd.Kept w w' := by
  have hm := hb.most
  unfold maxLen at hm
  exact again_at A m c _ w hT (hb.upto (min (m : Int) 2000).toNat (by omega)) hb.cap (by omega)

end Go.Proofs.YtgbeankindcloaaDoor.Law
