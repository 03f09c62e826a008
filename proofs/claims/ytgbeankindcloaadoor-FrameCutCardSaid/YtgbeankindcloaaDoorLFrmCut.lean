/-
  The law FrameCut, walked: of bytes that are cut nothing can be parsed.
-/
import Derived.Test.YtgbeankindcloaaDoorLFrmAgain
import Derived.Test.YtgbeankindcloaaDoorFrmZ
namespace Go.Proofs.YtgbeankindcloaaDoor.Law
open Go.RowKit SpnM Spn FrmM OctM Oct Frm Num
set_option linter.unusedVariables false
set_option linter.unusedSimpArgs false

theorem cut_short {a : Ack} (h : Valid a) {k : Nat} (hk : k < (FrmM.bytes a).length) : parseP ((FrmM.bytes a).take k) = (zero, 3) := by
  have hb := bytes_length h
  rw [parse_short (by rw [List.length_take]; omega)]
  exact parse_cut h k hk

set_option maxRecDepth 100000 in
set_option maxHeartbeats 600000 in
theorem frameCut_any (x y : Int) (A B : Option Addr) (n c m e : Nat) (f g : Nat → Nat → Int) (at_ : Int) (w : World) (hT : Tab w) (hA : Grid 2 w A n c f) (hB : Grid 1 w B m e g) :
    Calls Tryd.prog 8 #[.agg #[.int .i64 x, .int .i64 y, .slice A n c, .slice B m e], .int .i64 at_] w fun r w' => r = .returned (.bool true) ∧ Wd.Kept w w' := by
  have HT := Lib.hid hT
  have kk := (Wd.Kept.refl w).alloc (.cells #[.int .i64 x, .int .i64 y, .slice A n c, .slice B m e] 51)
  have K0 := Lib.hid kk
  have hmd := Lib.hid (made_any x y A B n c m e f g _ (hA.kept kk) (hB.kept kk))
  clear hT hA hB kk
  go_enter Tryd.func8, Tryd.ntmps8
  go_wp2_with fail
  with_reducible refine hmd.out.mono ?_
  rintro r w1 ⟨a, V, rfl, hv, ⟨A1, c1, rfl, row1⟩, k1⟩
  have K1 := Lib.hid (K0.out.trans k1)
  have HV := Lib.hid hv
  obtain ⟨A1', c1', e2, rw1, -⟩ := Row.of_own row1 rfl
  injection e2 with e3 e4 e5
  subst e3; subst e5
  have hby := bytes_any A1 a.ranges.length c1 a w1 (Rgs.of_row rw1) rw1.lt (HT.out.kept K1.out)
  rw [check_ok hv] at hby
  unfold bytesOut at hby
  rw [if_pos hv] at hby
  have hbl := bytes_length hv
  have hby := Lib.hid hby
  clear hmd k1 row1 rw1 hv
  go_wp2_with fail
  with_reducible refine hby.out.mono ?_
  rintro r w2 ⟨v2, rfl, o2, k2⟩
  obtain ⟨A2, c2, rfl, y2, -⟩ := o2.byt
  have K2 := Lib.hid (K1.out.trans k2)
  have Y2 := Lib.hid y2
  have HC := Lib.hid (fun k hk => cut_short (k := k) HV.out hk)
  have hc2 := y2.cap
  have hm2 := y2.most
  unfold maxLen at hm2
  clear o2 k2 hby y2 HV
  generalize FrmM.bytes a = bs at *
  generalize hnb : bs.length = nb at *
  have hz : ((nb : Int) == 0) = false := by simp; omega
  have hb0 := Int.emod_nonneg at_ (show (nb : Int) ≠ 0 by omega)
  have hb1 := Int.emod_lt_of_pos at_ (show (0 : Int) < (nb : Int) by omega)
  have hbr := Lib.hid (Oct.bring_any at_ (nb : Int) w2 (by omega) (by omega))
  generalize hk : at_ % (nb : Int) = kz at *
  obtain ⟨k, rfl⟩ := Int.eq_ofNat_of_zero_le hb0
  clear hk
  go_wp2_with fail
  with_reducible refine hbr.out.mono ?_
  rintro r w' ⟨rfl, rfl⟩
  have hup := fun W => run_upto A2 nb c2 k (by omega) W
  have hpa := parse_any A2 k c2 (bs.take k) w2 (HT.out.kept K2.out) (Y2.out.upto k (by omega)) (by omega)
  unfold ParseR at hpa
  rw [HC.out k (by omega)] at hpa
  have hpa := Lib.hid hpa
  clear hbr
  go_wp2_with fail
  with_reducible refine hpa.out.mono ?_
  rintro r w3 ⟨V3, rfl, ⟨A3, c3, rfl, row3⟩, k3⟩
  have hcz : Hid (ackV A3 zero.ranges.length c3 zero = .agg #[.int .i64 0, .slice A3 0 c3, .bool false, .int .i64 0, .int .i64 0, .int .i64 0]) := Lib.hid rfl
  rw [hcz.out]
  obtain ⟨A3', c3', e2, rw3, -⟩ := Row.of_own row3 rfl
  injection e2 with e3 e4 e5
  subst e3; subst e5
  have kk := (Wd.Kept.refl w3).alloc (.cells #[.int .i64 0, .slice A3 0 c3, .bool false, .int .i64 0, .int .i64 0, .int .i64 0] 25)
  have hsm := same_any A3 none 0 c3 0 0 zero zero _ (Row.kept (show Row w3 A3 0 c3 zero.ranges from rw3) kk) (Row.nil _)
  rw [sameA_self] at hsm
  have hca : ackV A3 0 c3 zero = .agg #[.int .i64 0, .slice A3 0 c3, .bool false, .int .i64 0, .int .i64 0, .int .i64 0] := rfl
  have hcb : ackV none 0 0 zero = .agg #[.int .i64 0, .slice none 0 0, .bool false, .int .i64 0, .int .i64 0, .int .i64 0] := rfl
  rw [hca, hcb] at hsm
  have hsm := Lib.hid hsm
  have K3 := Lib.hid ((K2.out.trans k3).trans kk)
  clear k3 row3 rw3 hpa kk hcz hca hcb
  go_wp2_with fail
  with_reducible refine hsm.out.mono ?_
  rintro e w7 ⟨rfl, k7⟩
  have K7 := Lib.hid (K3.out.trans k7)
  have hwk := Lib.hid (works_any w7 (HT.out.kept K7.out))
  clear k7 hsm
  go_wp2_with fail
  with_reducible refine hwk.out.mono ?_
  rintro e w8 ⟨rfl, k8⟩
  have K8 := Lib.hid (K7.out.trans k8)
  clear k8
  go_wp2_with fail
  go_ret
  exact ⟨rfl, K8.out⟩

end Go.Proofs.YtgbeankindcloaaDoor.Law
