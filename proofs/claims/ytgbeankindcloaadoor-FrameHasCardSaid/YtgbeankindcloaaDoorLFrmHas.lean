/-
  The law FrameHas, walked: an ACK has just the numbers of its ranges.
-/
import Derived.Test.YtgbeankindcloaaDoorLFrmAgain
import Derived.Test.YtgbeankindcloaaDoorFrmZ
import Derived.Test.YtgbeankindcloaaDoorFrmT
import Derived.Deep.Cut
import Derived.Deep.CutRange
namespace Go.Proofs.YtgbeankindcloaaDoor.Law
open Go.RowKit SpnM Spn FrmM OctM Oct Frm Num
set_option linter.unusedVariables false
set_option linter.unusedSimpArgs false

set_option maxRecDepth 100000 in
set_option maxHeartbeats 2000000 in
theorem frameHas_any (x y : Int) (A B : Option Addr) (n c m e : Nat) (f g : Nat → Nat → Int) (num_ : Int) (w : World) (hT : Tab w) (hA : Grid 2 w A n c f) (hB : Grid 1 w B m e g) :
    Calls Tryd.prog 9 #[.agg #[.int .i64 x, .int .i64 y, .slice A n c, .slice B m e], .int .i64 num_] w fun r w' => r = .returned (.bool true) ∧ Wd.Kept w w' := by
  have HT := Lib.hid hT
  have kk := (Wd.Kept.refl w).alloc (.cells #[.int .i64 x, .int .i64 y, .slice A n c, .slice B m e] 51)
  have K0 := Lib.hid kk
  have hmd := Lib.hid (made_any x y A B n c m e f g _ (hA.kept kk) (hB.kept kk))
  clear hT hA hB kk
  go_enter Tryd.func9, Tryd.ntmps9
  go_wp2_with fail
  with_reducible refine hmd.out.mono ?_
  rintro r w2 ⟨a, V, rfl, hv, ⟨A1, c1, rfl, row1⟩, k2⟩
  have HV := Lib.hid hv
  obtain ⟨A1', c1', e2, rw1, -⟩ := Row.of_own row1 rfl
  injection e2 with e3 e4 e5
  subst e3; subst e5
  have kk := (Wd.Kept.refl w2).alloc (.cells #[.int .i64 a.delay, .slice A1 a.ranges.length c1, .bool a.marked, .int .i64 a.m0, .int .i64 a.m1, .int .i64 a.m2] 25)
  have P3 := Lib.hid (Wd.Blk.new w2 25 #[.int .i64 a.delay, .slice A1 a.ranges.length c1, .bool a.marked, .int .i64 a.m0, .int .i64 a.m1, .int .i64 a.m2])
  have K3 := Lib.hid (K0.out.trans (k2.trans kk))
  have R3 := Lib.hid (rw1.kept kk)
  have hcx : Hid (ackV A1 a.ranges.length c1 a = .agg #[.int .i64 a.delay, .slice A1 a.ranges.length c1, .bool a.marked, .int .i64 a.m0, .int .i64 a.m1, .int .i64 a.m2]) := Lib.hid rfl
  rw [hcx.out]
  have hbr := Lib.hid (fun W => Oct.bring_any num_ 9007199254740992 W (by omega) (by omega))
  clear row1 rw1 k2 kk hmd hv hcx
  go_wp2_with fail
  generalize w2.alloc (.cells #[.int .i64 a.delay, .slice A1 a.ranges.length c1, .bool a.marked, .int .i64 a.m0, .int .i64 a.m1, .int .i64 a.m2] 25) = w3 at *
  generalize hg5 : w2.heap.size = g5 at *
  clear hg5
  with_reducible refine (hbr.out _).mono ?_
  rintro r w' ⟨rfl, rfl⟩
  generalize num_ % 9007199254740992 = nn at *
  clear hbr
  have hl1 := HV.out.1.1
  have hl2 := HV.out.1.2.1
  go_wp2_with fail
  go_loopw [6, 7] (fun s6 s7 wr => ∃ k : Nat, s7 = .int .i64 k ∧ s6 = .bool (anyIn nn (a.ranges.take k)) ∧ k ≤ a.ranges.length ∧ Hid (Wd.Kept w3 wr)) (fun s6 s7 wr => a.ranges.length - (intOf s7).toNat)
  case atStart => exact ⟨0, rfl, rfl, Nat.zero_le _, Lib.hid (Wd.Kept.refl _)⟩
  case round =>
    obtain ⟨k, rfl, rfl, hkl, KR⟩ := hrel
    have p1 := (P3.out.kept KR.out).cell 1
    by_cases hk : k < a.ranges.length
    · obtain ⟨lo, hi, hget, n0, n1, n2, h1, h2, h3, h4, h5⟩ := has_at HV.out hk
      have HS := Lib.hid (anyIn_step (n := nn) hget)
      have hat : at_ a.ranges k = (lo, hi) := by simp [at_, List.getD, hget]
      have RR := R3.out.kept KR.out
      obtain ⟨gr, rfl, -⟩ := RR.some_ (by omega)
      have e0 := RR.lo hk
      have e1 := RR.hi hk
      rw [hat] at e0 e1
      simp only at e0 e1
      have kx := (Wd.Kept.refl wr).alloc (.cells #[.int .i64 lo, .int .i64 hi] 36)
      have XB := Lib.hid (Wd.Blk.new wr 36 #[.int .i64 lo, .int .i64 hi])
      have KX := Lib.hid (KR.out.trans kx)
      have RX := Lib.hid (RR.kept kx)
      have hki : (k : Int) < (a.ranges.length : Int) := by omega
      have B1 := Lib.hid h1
      have B2 := Lib.hid h2
      have B3 := Lib.hid h3
      have B4 := Lib.hid h4
      have B5 := Lib.hid h5
      have hcp := R3.out.cap
      clear h1 h2 h3 h4 h5 hget hat RR kx
      go_upto_region 8 with (fail)
      generalize wr.alloc (.cells #[.int .i64 lo, .int .i64 hi] 36) = wx at *
      generalize hgx : wr.heap.size = gx at *
      clear hgx
      have x0 := XB.out.cell 0
      have x1 := XB.out.cell 1
      go_cut [6] from 25 to 37 (fun s6 wc => s6 = .bool (anyIn nn (a.ranges.take (k + 1))) ∧ wx = wc)
      case first =>
        generalize anyIn nn (a.ranges.take k) = wt at *
        cases wt with
        | true => go_wp2_with fail; go_meet; exact ⟨by rw [HS.out]; simp, rfl⟩
        | false =>
          by_cases hz : lo ≤ nn
          · go_wp2_with fail; go_meet; exact ⟨by rw [HS.out]; simp [hz]; try omega, rfl⟩
          · go_wp2_with fail; go_meet; exact ⟨by rw [HS.out]; simp [hz]; try omega, rfl⟩
      case rest =>
        obtain ⟨rfl, rfl⟩ := hcut
        have HH : Hid (∀ (W : World) (z : Int) (b : Bool), Hid (has a z = b) → Wd.Kept wx W → Calls Tryd.prog 20 #[.agg #[.int .i64 a.delay, .slice (some ⟨gr, 0, none⟩) a.ranges.length c1, .bool a.marked, .int .i64 a.m0, .int .i64 a.m1, .int .i64 a.m2], .int .i64 z] W fun e W' => e = .returned (.bool b) ∧ Hid (Wd.Kept wx W')) :=
          Lib.hid (fun W z b hb hk => by
            have hc := has_any (some ⟨gr, 0, none⟩) a.ranges.length c1 a z W (Rgs.of_row (RX.out.kept hk)) (RX.out.kept hk).lt
            rw [hb.out] at hc
            exact hc.mono fun e W' ⟨h1, h2⟩ => ⟨h1, Lib.hid (hk.trans h2)⟩)
        have PX := Lib.hid (P3.out.kept KX.out)
        have p0 := PX.out.cell 0
        have p1 := PX.out.cell 1
        have p2 := PX.out.cell 2
        have p3 := PX.out.cell 3
        have p4 := PX.out.cell 4
        have p5 := PX.out.cell 5
        clear e0 e1 HS
        go_wp2_with fail
        with_reducible refine (HH.out _ _ _ B1 (Wd.Kept.refl _)).mono ?_
        rintro r w11 ⟨rfl, k1⟩
        clear p0 p1 p2 p3 p4 p5
        have p0 := (PX.out.kept k1.out).cell 0
        have p1 := (PX.out.kept k1.out).cell 1
        have p2 := (PX.out.kept k1.out).cell 2
        have p3 := (PX.out.kept k1.out).cell 3
        have p4 := (PX.out.kept k1.out).cell 4
        have p5 := (PX.out.kept k1.out).cell 5
        have x0 := (XB.out.kept k1.out).cell 0
        have x1 := (XB.out.kept k1.out).cell 1
        go_wp2_with fail
        with_reducible refine (HH.out _ _ _ B2 k1.out).mono ?_
        rintro r w12 ⟨rfl, k2⟩
        clear p0 p1 p2 p3 p4 p5
        have p0 := (PX.out.kept k2.out).cell 0
        have p1 := (PX.out.kept k2.out).cell 1
        have p2 := (PX.out.kept k2.out).cell 2
        have p3 := (PX.out.kept k2.out).cell 3
        have p4 := (PX.out.kept k2.out).cell 4
        have p5 := (PX.out.kept k2.out).cell 5
        have x0 := (XB.out.kept k2.out).cell 0
        have x1 := (XB.out.kept k2.out).cell 1
        go_wp2_with fail
        with_reducible refine (HH.out _ _ _ B3 k2.out).mono ?_
        rintro r w13 ⟨rfl, k3⟩
        clear p0 p1 p2 p3 p4 p5
        have p0 := (PX.out.kept k3.out).cell 0
        have p1 := (PX.out.kept k3.out).cell 1
        have p2 := (PX.out.kept k3.out).cell 2
        have p3 := (PX.out.kept k3.out).cell 3
        have p4 := (PX.out.kept k3.out).cell 4
        have p5 := (PX.out.kept k3.out).cell 5
        have x0 := (XB.out.kept k3.out).cell 0
        have x1 := (XB.out.kept k3.out).cell 1
        go_wp2_with fail
        with_reducible refine (HH.out _ _ _ B4 k3.out).mono ?_
        rintro r w14 ⟨rfl, k4⟩
        clear p0 p1 p2 p3 p4 p5
        have p0 := (PX.out.kept k4.out).cell 0
        have p1 := (PX.out.kept k4.out).cell 1
        have p2 := (PX.out.kept k4.out).cell 2
        have p3 := (PX.out.kept k4.out).cell 3
        have p4 := (PX.out.kept k4.out).cell 4
        have p5 := (PX.out.kept k4.out).cell 5
        have x0 := (XB.out.kept k4.out).cell 0
        have x1 := (XB.out.kept k4.out).cell 1
        go_wp2_with fail
        with_reducible refine (HH.out _ _ _ B5 k4.out).mono ?_
        rintro r w15 ⟨rfl, k5⟩
        go_wp2_with fail
        refine ⟨⟨k + 1, by simp, rfl, by omega, Lib.hid (KX.out.trans k5.out)⟩, ?_⟩
        simp [intOf]; omega
    · have hke : k = a.ranges.length := by omega
      subst hke
      have HA := Lib.hid (has_all HV.out nn)
      have HE := Lib.hid (List.take_length (l := a.ranges))
      rw [HE.out, ← HA.out]
      have hwk := Lib.hid (works_any wr (HT.out.kept (K3.out.trans KR.out)))
      have PX := P3.out.kept KR.out
      have p0 := PX.cell 0
      have p2 := PX.cell 2
      have p3 := PX.cell 3
      have p4 := PX.cell 4
      have p5 := PX.cell 5
      have hc := has_any A1 a.ranges.length c1 a nn wr (Rgs.of_row (R3.out.kept KR.out)) (R3.out.kept KR.out).lt
      unfold ackV at hc
      have HC := Lib.hid hc
      generalize has a nn = hb at *
      clear hc PX hwk
      go_wp2_with fail
      with_reducible refine HC.out.mono ?_
      rintro r w8 ⟨rfl, k8⟩
      have K8 := Lib.hid ((K3.out.trans KR.out).trans k8)
      have hwk := Lib.hid (works_any w8 (HT.out.kept K8.out))
      have hbb : (hb == hb) = true := by cases hb <;> rfl
      go_wp2_with fail
      with_reducible refine hwk.out.mono ?_
      rintro r w9 ⟨rfl, k9⟩
      have K9 := Lib.hid (K8.out.trans k9)
      go_wp2_with fail
      go_ret
      exact ⟨rfl, K9.out⟩

end Go.Proofs.YtgbeankindcloaaDoor.Law
