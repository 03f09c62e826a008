/-
  The law FrameBack, walked: what is written is read as it was, whatever stands behind it.
-/
import Derived.Test.YtgbeankindcloaaDoorLFrmAgain
import Derived.Test.YtgbeankindcloaaDoorFrmK
import Derived.Deep.RegionLaw
import Derived.Deep.Cut
import Derived.Deep.CutRange
namespace Go.Proofs.YtgbeankindcloaaDoor.Law
open Go.RowKit SpnM Spn FrmM OctM Oct Frm Num
set_option linter.unusedVariables false
set_option linter.unusedSimpArgs false

theorem next_two {a : FrmM.Ack} (h : Valid a) (m : List Int) (hm : m.length ≤ 40) : nextP (FrmM.bytes a ++ m) = (a, ((FrmM.bytes a).length : Int), 0) := by
  have hb := (bytes_length h).2
  unfold nextP
  rw [List.take_append, List.take_of_length_le hb]
  exact next_back h _

/-- What Next answers of these bytes. -/
theorem next_st {w2 W : World} {v : Value} {a : FrmM.Ack} {m : List Int} {oz : Option Nat} (hT : Tab w2) (h : St w2 W v (FrmM.bytes a ++ m) oz) (hv : Valid a) (hm : m.length ≤ 40) :
    Calls Tryd.prog 25 #[v] W fun e W' => ∃ A c, e = .returned (.tuple #[.agg #[.int .i64 a.delay, .slice A a.ranges.length c, .bool a.marked, .int .i64 a.m0, .int .i64 a.m1, .int .i64 a.m2], .int .i64 ((FrmM.bytes a).length : Int), .int .i64 0]) ∧ Sn w2 W' a (ackV A a.ranges.length c a) oz := by
  obtain ⟨A, c, rfl, y, -⟩ := h.own.byt
  have hb := (bytes_length hv).2
  have hn := next_any A _ c _ W (hT.kept h.kept) y (by rw [List.length_append]; omega)
  unfold NextR at hn
  rw [next_two hv m hm] at hn
  refine hn.mono ?_
  rintro e W' ⟨V, rfl, o, k⟩
  have s := h.next o k
  obtain ⟨A', c', rfl, -⟩ := o
  exact ⟨A', c', rfl, s⟩

set_option maxRecDepth 100000 in
set_option maxHeartbeats 2000000 in
theorem back_at (x y : Int) (A B : Option Addr) (n c m e : Nat) (f g : Nat → Nat → Int) (D : Option Addr) (q k d : Nat) (L : List Int) (w : World) (hT : Tab w) (hA : Grid 2 w A n c f) (hB : Grid 1 w B m e g) (hD : Byt w D k d L)
    (hk : (q ≤ 40 ∧ k = q) ∨ (40 < q ∧ k = 40)) (hq : q ≤ d) (hd : d ≤ 9223372036854775807) :
    Calls Tryd.prog 6 #[.agg #[.int .i64 x, .int .i64 y, .slice A n c, .slice B m e], .slice D q d] w fun r w' => r = .returned (.bool true) ∧ Wd.Kept w w' := by
  have HT := Lib.hid hT
  have HD := Lib.hid hD
  have hk40 : Hid (L.length ≤ 40) := Lib.hid (by rw [hD.len]; omega)
  have UD := Lib.hid (show (0 : Int) ≤ min (q : Int) 40 ∧ min (q : Int) 40 ≤ (d : Int) ∧ (min (q : Int) 40).toNat = k by omega)
  have kk := (Wd.Kept.refl w).alloc (.cells #[.int .i64 x, .int .i64 y, .slice A n c, .slice B m e] 51)
  have K0 := Lib.hid kk
  have bx := Wd.Blk.new w 51 #[.int .i64 x, .int .i64 y, .slice A n c, .slice B m e]
  have BX := Lib.hid bx
  have hA0 := Lib.hid (hA.kept kk)
  have hB0 := Lib.hid (hB.kept kk)
  have hwk := Lib.hid (works_any _ (HT.out.kept kk))
  clear hT hA hB kk hD bx hk
  go_enter Tryd.func6, Tryd.ntmps6
  go_wp2_with fail
  generalize w.alloc (.cells #[.int .i64 x, .int .i64 y, .slice A n c, .slice B m e] 51) = w0 at *
  generalize w.heap.size = g0 at *
  with_reducible refine hwk.out.mono ?_
  rintro r w1 ⟨rfl, k1⟩
  have K1 := Lib.hid (K0.out.trans k1)
  have BX1 := BX.out.kept k1
  have b0 := BX1.cell 0
  have b1 := BX1.cell 1
  have b2 := BX1.cell 2
  have b3 := BX1.cell 3
  have hmd := Lib.hid (made_any x y A B n c m e f g w1 (hA0.out.kept k1) (hB0.out.kept k1))
  clear hwk BX hA0 hB0 k1 BX1
  go_wp2_with fail
  with_reducible refine hmd.out.mono ?_
  rintro r w2 ⟨a, V, rfl, hv, ⟨A1, c1, rfl, row1⟩, k2⟩
  have HV := Lib.hid hv
  obtain ⟨A1', c1', e2, rw1, -⟩ := Row.of_own row1 rfl
  injection e2 with e3 e4 e5
  subst e3; subst e5
  have kk := (Wd.Kept.refl w2).alloc (.cells #[.int .i64 a.delay, .slice A1 a.ranges.length c1, .bool a.marked, .int .i64 a.m0, .int .i64 a.m1, .int .i64 a.m2] 25)
  have P2 := Lib.hid (Wd.Blk.new w2 25 #[.int .i64 a.delay, .slice A1 a.ranges.length c1, .bool a.marked, .int .i64 a.m0, .int .i64 a.m1, .int .i64 a.m2])
  have K2 := Lib.hid (K1.out.trans (k2.trans kk))
  have R2 := Lib.hid (rw1.kept kk)
  have p0 := P2.out.cell 0
  have p1 := P2.out.cell 1
  have p2 := P2.out.cell 2
  have p3 := P2.out.cell 3
  have p4 := P2.out.cell 4
  have p5 := P2.out.cell 5
  have hby := bytes_any A1 a.ranges.length c1 a _ (Rgs.of_row R2.out) R2.out.lt (HT.out.kept K2.out)
  unfold ackV at hby
  have hby := Lib.hid hby
  have hcx : Hid (ackV A1 a.ranges.length c1 a = .agg #[.int .i64 a.delay, .slice A1 a.ranges.length c1, .bool a.marked, .int .i64 a.m0, .int .i64 a.m1, .int .i64 a.m2]) := Lib.hid rfl
  rw [hcx.out]
  clear row1 rw1 k2 kk hmd hv b0 b1 b2 b3 hcx
  go_wp2_with fail
  generalize w2.alloc (.cells #[.int .i64 a.delay, .slice A1 a.ranges.length c1, .bool a.marked, .int .i64 a.m0, .int .i64 a.m1, .int .i64 a.m2] 25) = w3 at *
  generalize hg5 : w2.heap.size = g5 at *
  clear hg5
  with_reducible refine hby.out.mono ?_
  rintro r w4 ⟨v4, rfl, o4, k4⟩
  rw [check_ok HV.out]
  unfold bytesOut at o4
  rw [if_pos HV.out] at o4
  obtain ⟨A4, c4, rfl, y4, -⟩ := o4.byt
  have P4 := Lib.hid (P2.out.kept k4)
  have K4 := Lib.hid (K2.out.trans k4)
  have R4 := Lib.hid (R2.out.kept k4)
  have Y4 := Lib.hid y4
  have BL := Lib.hid (bytes_length HV.out)
  have p0 := P4.out.cell 0
  have p1 := P4.out.cell 1
  have p2 := P4.out.cell 2
  have p3 := P4.out.cell 3
  have p4 := P4.out.cell 4
  have p5 := P4.out.cell 5
  have hck := check_any A1 _ c1 a w4 (Rgs.of_row R4.out) R4.out.lt
  unfold ackV at hck
  rw [check_ok HV.out] at hck
  have hck := Lib.hid hck
  clear o4 k4 y4 hby P2 K2 R2
  generalize hnb : (FrmM.bytes a).length = nb at *
  have HNB := Lib.hid hnb
  clear hnb
  go_wp2_with fail
  with_reducible refine hck.out.mono ?_
  rintro r w5 ⟨rfl, k5⟩
  have P5 := Lib.hid (P4.out.kept k5)
  have K5 := Lib.hid (K4.out.trans k5)
  have R5 := Lib.hid (R4.out.kept k5)
  have Y5 := Lib.hid (Oct.Byt.kept Y4.out k5)
  clear hck P4 K4 R4 Y4 k5 p0 p1 p2 p3 p4 p5
  go_upto_region 7 with (fail)
  have S0 := Lib.hid (St.start w5)
  have SAL := Lib.hid (show St w5 (w5.drew.alloc (.cells zz 25)) (.slice none 0 0) [] (some w5.heap.size) from S0.out.al)
  have HCP : Hid (∀ (W : World) (oz : Option Nat), St w5 W (.slice none 0 0) [] oz → Calls Tryd.prog 24 #[.slice A4 nb c4] W fun e W' => ∃ v, e = .returned v ∧ St w5 W' v (FrmM.bytes a) oz) :=
    Lib.hid (fun W oz h => (Oct.copy_any A4 nb c4 _ W (Oct.Byt.kept Y5.out h.kept) (by have := BL.out; omega)).mono fun e W' k => h.copy k)
  have HD5 := Lib.hid (Oct.Byt.kept HD.out K5.out)
  have HNX : Hid (∀ (W : World) (v : Value) (oz : Option Nat), St w5 W v (FrmM.bytes a ++ L) oz → Calls Tryd.prog 25 #[v] W fun e W' => ∃ A c, e = .returned (.tuple #[.agg #[.int .i64 a.delay, .slice A a.ranges.length c, .bool a.marked, .int .i64 a.m0, .int .i64 a.m1, .int .i64 a.m2], .int .i64 (nb : Int), .int .i64 0]) ∧ Hid (Sn w5 W' a (ackV A a.ranges.length c a) oz)) :=
    Lib.hid (fun W v oz h => by rw [← HNB.out]; exact (next_st (HT.out.kept K5.out) h HV.out hk40.out).mono fun e W' ⟨A, c, h1, h2⟩ => ⟨A, c, h1, Lib.hid h2⟩)
  have hbig : Hid ((FrmM.bytes a).length + k ≤ 140737488355328) := Lib.hid (by have := BL.out; have := hk40.out; have := HD.out.len; have := HNB.out; omega)
  go_cut [8, 9, 10] from 29 to 41 (fun s8 s9 s10 wc => FinB w5 wc a s8 ∧ s9 = .int .i64 (nb : Int) ∧ s10 = .int .i64 0)
  case first =>
    obtain ⟨u1, u2, u3⟩ := UD.out
    all_goals
      clear UD
      go_region_law (first
        | (refine step_fn rfl 24 (.tmp 30) 27 rfl _ (by first | rfl | simp [Act.eval, Act.put]) _ (HCP.out _ _ (by first | exact S0.out | exact SAL.out)) _ Tryd.func24 rfl rfl ?_
           rintro e WC ⟨vc, rfl, sc⟩
           refine ⟨_, rfl, ?_⟩
           have SC := Lib.hid sc
           clear sc)
        | (refine step_apps rfl (.tmp 31) (.tmp 36) rfl _ _ (by first | exact SC.out | exact SC.out.al) (by first | rfl | simp [Act.eval, Act.put]) D k d L HD5.out (by first | rfl | simp [Act.eval, Act.put]) hbig.out ?_
           intro va WA SA)
        | (refine step_fn rfl 25 (.tmp 37) 27 rfl _ (by first | rfl | simp [Act.eval, Act.put]) _ (HNX.out _ _ _ (by first | exact SA.out | exact SA.out.al)) _ Tryd.func25 rfl rfl ?_
           rintro e WN ⟨A6, c6, rfl, SN⟩
           refine ⟨_, rfl, ?_⟩
           try (obtain ⟨bz, _⟩ := SN.out.box _ rfl; unfold zz at bz; have z0 := bz.cell 0; have z1 := bz.cell 1; have z2 := bz.cell 2; have z3 := bz.cell 3; have z4 := bz.cell 4; have z5 := bz.cell 5; have y0 := bz.frozen 0; have y1 := bz.frozen 1; have y2 := bz.frozen 2; have y3 := bz.frozen 3; have y4 := bz.frozen 4; have y5 := bz.frozen 5; clear bz)))
      all_goals
        go_wp2_with fail
        go_meet
        refine ⟨?_, rfl, rfl⟩
        with_reducible first | exact SN.out.fin6 | exact SN.out.fin_new | exact SN.out.al.fin6
  case rest =>
    obtain ⟨⟨g8, A8, c8, rfl, bl8, hg8, row8, k8⟩, rfl, rfl⟩ := hcut
    obtain ⟨A8', c8', e2, rw8, -⟩ := Row.of_own row8 rfl
    injection e2 with e3 e4 e5
    subst e3; subst e5
    have P8 := Lib.hid (P5.out.kept k8)
    have Q8 := Lib.hid bl8
    have K8 := Lib.hid (K5.out.trans k8)
    have R8 := Lib.hid (R5.out.kept k8)
    have S8 := Lib.hid rw8
    have hpp : parseP (FrmM.bytes a) = (a, 0) := by rw [parse_short (by have := BL.out; have := HNB.out; omega)]; exact parse_back HV.out
    have hpa := parse_any A4 nb c4 (FrmM.bytes a) wc (HT.out.kept K8.out) (Oct.Byt.kept Y5.out k8) (by have := BL.out; omega)
    unfold ParseR at hpa
    rw [hpp] at hpa
    have hpa := Lib.hid hpa
    clear hpp S0 SAL HCP HNX HD5 hbig bl8 hg8 row8 rw8 k8 P5 K5 R5 Y5 UD HD
    go_wp2_with fail
    with_reducible refine hpa.out.mono ?_
    rintro r w9 ⟨V9, rfl, ⟨A9, c9, rfl, row9⟩, k9⟩
    obtain ⟨A9', c9', e2, rw9, -⟩ := Row.of_own row9 rfl
    injection e2 with e3 e4 e5
    subst e3; subst e5
    have hcx : Hid (ackV A9 a.ranges.length c9 a = .agg #[.int .i64 a.delay, .slice A9 a.ranges.length c9, .bool a.marked, .int .i64 a.m0, .int .i64 a.m1, .int .i64 a.m2]) := Lib.hid rfl
    rw [hcx.out]
    have kk := k9.alloc (.cells #[.int .i64 a.delay, .slice A9 a.ranges.length c9, .bool a.marked, .int .i64 a.m0, .int .i64 a.m1, .int .i64 a.m2] 25)
    have X9 := Lib.hid (Wd.Blk.new w9 25 #[.int .i64 a.delay, .slice A9 a.ranges.length c9, .bool a.marked, .int .i64 a.m0, .int .i64 a.m1, .int .i64 a.m2])
    have P9 := Lib.hid (P8.out.kept kk)
    have Q9 := Lib.hid (Q8.out.kept kk)
    have K9 := Lib.hid (K8.out.trans kk)
    have R9 := Lib.hid (R8.out.kept kk)
    have S9 := Lib.hid (S8.out.kept kk)
    have T9 := Lib.hid (rw9.kept ((Wd.Kept.refl w9).alloc (.cells #[.int .i64 a.delay, .slice A9 a.ranges.length c9, .bool a.marked, .int .i64 a.m0, .int .i64 a.m1, .int .i64 a.m2] 25)))
    have p0 := P9.out.cell 0
    have p1 := P9.out.cell 1
    have p2 := P9.out.cell 2
    have p3 := P9.out.cell 3
    have p4 := P9.out.cell 4
    have p5 := P9.out.cell 5
    have q0 := Q9.out.cell 0
    have q1 := Q9.out.cell 1
    have q2 := Q9.out.cell 2
    have q3 := Q9.out.cell 3
    have q4 := Q9.out.cell 4
    have q5 := Q9.out.cell 5
    have hsm := same_any A1 A8 _ c1 _ c8 a a _ R9.out S9.out
    rw [sameA_self] at hsm
    unfold ackV at hsm
    have hsm := Lib.hid hsm
    clear kk k9 row9 rw9 hpa P8 Q8 K8 R8 S8 hcx
    go_wp2_with fail
    generalize w9.alloc (.cells #[.int .i64 a.delay, .slice A9 a.ranges.length c9, .bool a.marked, .int .i64 a.m0, .int .i64 a.m1, .int .i64 a.m2] 25) = w10 at *
    generalize hg10 : w9.heap.size = g10 at *
    clear hg10
    with_reducible refine hsm.out.mono ?_
    rintro r w11 ⟨rfl, k11⟩
    have K11 := Lib.hid (K9.out.trans k11)
    have PB := Lib.hid (P9.out.kept k11)
    have XB := Lib.hid (X9.out.kept k11)
    have hs2 := same_any A1 A9 _ c1 _ c9 a a w11 (R9.out.kept k11) (T9.out.kept k11)
    rw [sameA_self] at hs2
    unfold ackV at hs2
    have hs2 := Lib.hid hs2
    clear hsm p0 p1 p2 p3 p4 p5 q0 q1 q2 q3 q4 q5 k11 P9 Q9 K9 R9 S9 T9 X9
    have p0 := PB.out.cell 0
    have p1 := PB.out.cell 1
    have p2 := PB.out.cell 2
    have p3 := PB.out.cell 3
    have p4 := PB.out.cell 4
    have p5 := PB.out.cell 5
    have q0 := XB.out.cell 0
    have q1 := XB.out.cell 1
    have q2 := XB.out.cell 2
    have q3 := XB.out.cell 3
    have q4 := XB.out.cell 4
    have q5 := XB.out.cell 5
    go_wp2_with fail
    with_reducible refine hs2.out.mono ?_
    rintro r w12 ⟨rfl, k12⟩
    have K12 := Lib.hid (K11.out.trans k12)
    clear hs2 k12 p0 p1 p2 p3 p4 p5 q0 q1 q2 q3 q4 q5
    go_wp2_with fail
    go_ret
    exact ⟨rfl, K12.out⟩

theorem frameBack_any (x y : Int) (A B : Option Addr) (n c m e : Nat) (f g : Nat → Nat → Int) (D : Option Addr) (q d : Nat) (L : List Int) (w : World) (hT : Tab w) (hA : Grid 2 w A n c f) (hB : Grid 1 w B m e g) (hD : Byt w D q d L) :
    Calls Tryd.prog 6 #[.agg #[.int .i64 x, .int .i64 y, .slice A n c, .slice B m e], .slice D q d] w fun r w' => r = .returned (.bool true) ∧ Wd.Kept w w' := by
  have hm := hD.most
  unfold maxLen at hm
  have hc := hD.cap
  rcases Nat.lt_or_ge 40 q with h | h
  · exact back_at x y A B n c m e f g D q 40 d _ w hT hA hB (hD.upto 40 (by omega)) (.inr ⟨h, rfl⟩) hc (by omega)
  · exact back_at x y A B n c m e f g D q q d _ w hT hA hB (hD.upto q (by omega)) (.inl ⟨h, rfl⟩) hc (by omega)
end Go.Proofs.YtgbeankindcloaaDoor.Law
