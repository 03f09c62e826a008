/-
  The law WindowIdle: a window that was not full stays as it is; an acknowledgement never makes it less.
-/
import Derived.Test.YtchnljebhbaghaaWinB
import Derived.Deep.DeepCutAuto
namespace Go.Proofs.Ytchnljebhbaghaa.Law
open Go.RowKit WinM Wd Win
set_option linter.unusedVariables false
set_option linter.unusedSimpArgs false

set_option maxRecDepth 100000 in
set_option maxHeartbeats 4000000 in
theorem windowIdle_any (x y z : Int) (A : Option Addr) (n cap : Nat) (f : Nat → Do) (a z2 : Int) (w0 : World) (hl : Dos w0 A n cap f) :
    Calls Try.prog 9 #[.agg #[.int .i64 x, .int .i64 y, .int .i64 z], .slice A n cap, .agg #[.int .i64 a, .int .i64 z2]] w0 fun e w' => e = .returned (.bool true) ∧ Kept w0 w' := by
  have T1 := Lib.hid hl
  have hn : n ≤ 9223372036854775807 := by have h1 := hl.le; have h2 := hl.max; simp only [maxLen] at h2; omega
  clear hl
  have k0 := made_any x y z
  have hok0 := made_ok x y z
  obtain ⟨X, hX⟩ : ∃ X, made x y z = X := ⟨_, rfl⟩
  rw [hX] at k0 hok0
  clear hX
  obtain ⟨w, hW, X0, Y0, K0⟩ : ∃ W, W = ((w0.alloc (.cells #[.int .i64 x, .int .i64 y, .int .i64 z] 26)).alloc (.cells #[.int .i64 a, .int .i64 z2] 46)) ∧ Blk W w0.heap.size 26 #[.int .i64 x, .int .i64 y, .int .i64 z] ∧ Blk W (w0.heap.size + 1) 46 #[.int .i64 a, .int .i64 z2] ∧ Kept w0 W := by
    refine ⟨_, rfl, (Blk.new _ _ _).kept ((Kept.refl _).alloc _), ?_, ((Kept.refl w0).alloc _).alloc _⟩
    have h := Blk.new (w0.alloc (.cells #[.int .i64 x, .int .i64 y, .int .i64 z] 26)) 46 #[.int .i64 a, .int .i64 z2]
    rwa [World.size_alloc] at h
  have T0 := Lib.hid (T1.out.kept K0)
  have YH := Lib.hid Y0
  have KH := Lib.hid K0
  have XH := Lib.hid X0
  clear T1 Y0 X0 K0
  have x0 := XH.out.cell 0
  have x1 := XH.out.cell 1
  have x2 := XH.out.cell 2
  go_enter Try.func9, Try.ntmps9
  go_wp2_with fail
  rw [← hW]
  clear hW
  refine (k0 _).mono ?_
  rintro e w2 ⟨rfl, hk⟩
  have P0 : Hid (Lw w w2.heap.size w0.heap.size x y z X (w2.alloc (.cells #[.int .i64 X.d, .int .i64 X.m, .int .i64 X.c, .int .i64 X.t, .int .i64 X.s, .int .i64 X.g] 23))) := Lib.hid ⟨Blk.new _ _ _, (XH.out.kept hk).kept ((Kept.refl _).alloc _), hk.alloc _, hk.size⟩
  clear x0 x1 x2 XH hk k0
  go_wp2_with fail
  generalize hp : w2.heap.size = p at *
  generalize hqy : w0.heap.size + 1 = qy at *
  generalize hq : w0.heap.size = q at *
  clear hp hq hqy
  go_loopw [8] (fun si wr => ∃ (i : Nat) (R : Wn), i ≤ n ∧ i ≤ 60 ∧ si = .int .i64 i ∧ Ok R ∧ Hid (Lw w p q x y z R wr)) (fun si _ => n - (intOf si).toNat)
  case atStart => exact ⟨0, X, Nat.zero_le _, Nat.zero_le _, rfl, hok0, P0⟩
  case round =>
    obtain ⟨i, R, hin, hi60, rfl, hok, HB⟩ := hrel
    clear P0 hok0
    have hw1 : IntKind.i64.wrap ((i : Int) + 1) = (i : Int) + 1 := IntWalk.i64_in _ (by omega)
    by_cases hgo : i < n ∧ i < 60
    · obtain ⟨hlt, hlt2⟩ := hgo
      have hi1 : (i : Int) < (n : Int) := by omega
      have hi2 : (i : Int) < 60 := by omega
      have hi3 : (0 : Int) ≤ (i : Int) := by omega
      have HT := T0.out.kept HB.out.k
      obtain ⟨b, o, rfl, hb, hc⟩ := HT.lies (by omega)
      have D1 := Dos.at_ hc HB.out hlt
      clear HT hc
      have c3 := Lib.hid (fun W => step_any R (f i) W hok)
      have hok1 := step_ok hok (f i)
      obtain ⟨B, hB⟩ : ∃ B, stepW R (f i) = B := ⟨_, rfl⟩
      rw [hB] at c3 hok1
      have HO1 := Lib.hid hok1
      clear hB hok1
      generalize f i = dd at *
      obtain ⟨dk, da, dn, dz, df⟩ := dd
      obtain ⟨O, hO⟩ : ∃ O, o + i * 5 = O := ⟨_, rfl⟩
      rw [hO] at D1
      have D0 := Lib.hid (D1.on (Kept.refl wr).drew)
      have D := D0
      have KA : Hid (Kept wr.drew (wr.alloc (.cells zA 23)).drew) := Lib.hid ((Kept.refl wr.drew).alloc _)
      have DA := Lib.hid (D0.out.on KA.out)
      have HPL : Hid (p < wr.heap.size) := Lib.hid HB.out.a.lt
      clear D1
      go_upto_region 5 with (fail)
      go_cut [9, 10] (fun ta tb wx => ∃ g : Nat, ta = .pointer (some ⟨g, 0, none⟩) ∧ tb = .bool true ∧ p < g ∧ Hid (Lw w p q x y z R wx) ∧ Hid (Blk wx g 23 (wnA B)))
      case first =>
        go_region_held3 (fun V => V.cell? ⟨p, 0, none⟩ = some (.int .i64 R.d) ∧ V.cell? ⟨p, 1, none⟩ = some (.int .i64 R.m) ∧ V.cell? ⟨p, 2, none⟩ = some (.int .i64 R.c) ∧ V.cell? ⟨p, 3, none⟩ = some (.int .i64 R.t) ∧ V.cell? ⟨p, 4, none⟩ = some (.int .i64 R.s) ∧ V.cell? ⟨p, 5, none⟩ = some (.int .i64 R.g) ∧ V.cell? ⟨b, O, none⟩ = some (.int .i64 dk) ∧ V.cell? ⟨b, O + 1, none⟩ = some (.int .i64 da) ∧ V.cell? ⟨b, O + 2, none⟩ = some (.int .i64 dn) ∧ V.cell? ⟨b, O + 3, none⟩ = some (.int .i64 dz) ∧ V.cell? ⟨b, O + 4, none⟩ = some (.bool df))
          (first | with_reducible exact D.out.ca | with_reducible exact DA.out.ca | with_reducible exact (D.out.on ((Kept.refl _).alloc _)).ca | with_reducible exact (D0.out.on K6.out).ca)
          ((go_at_call 26; (refine (c3.out _).mono ?_); rintro e w' ⟨rfl, K⟩; (first | (with_reducible (have D := Lib.hid (D0.out.on K))) | (have KT : Hid (Kept wr.drew w') := Lib.hid (by first | with_reducible exact KA.out.trans K | exact ((Kept.refl _).alloc _).trans K); have NB : Hid (Blk w' wr.heap.size 23 zA) := Lib.hid (Blk.kept (Blk.new wr.drew _ _) K); have D := Lib.hid (D0.out.on KT.out); have K6 := Lib.hid (six_of (g := wr.heap.size) KT.out (Nat.le_refl _) B); have nb0 : w'.cell? ⟨wr.heap.size, 0, none⟩ = some (.int .i64 0) := NB.out.cell 0; have nf0 : w'.frozen? ⟨wr.heap.size, 0, none⟩ = false := NB.out.frozen 0; have nb1 : w'.cell? ⟨wr.heap.size, 1, none⟩ = some (.int .i64 0) := NB.out.cell 1; have nf1 : w'.frozen? ⟨wr.heap.size, 1, none⟩ = false := NB.out.frozen 1; have nb2 : w'.cell? ⟨wr.heap.size, 2, none⟩ = some (.int .i64 0) := NB.out.cell 2; have nf2 : w'.frozen? ⟨wr.heap.size, 2, none⟩ = false := NB.out.frozen 2; have nb3 : w'.cell? ⟨wr.heap.size, 3, none⟩ = some (.int .i64 0) := NB.out.cell 3; have nf3 : w'.frozen? ⟨wr.heap.size, 3, none⟩ = false := NB.out.frozen 3; have nb4 : w'.cell? ⟨wr.heap.size, 4, none⟩ = some (.int .i64 0) := NB.out.cell 4; have nf4 : w'.frozen? ⟨wr.heap.size, 4, none⟩ = false := NB.out.frozen 4; have nb5 : w'.cell? ⟨wr.heap.size, 5, none⟩ = some (.int .i64 0) := NB.out.cell 5; have nf5 : w'.frozen? ⟨wr.heap.size, 5, none⟩ = false := NB.out.frozen 5))))
        all_goals
          go_wp2_with fail
          go_meet
          first
            | exact ⟨_, rfl, rfl, HPL.out, Lib.hid (D0.out.h.on K6.out), Lib.hid (six_blk (x := zero) (y := B) NB.out)⟩
            | exact ⟨_, rfl, rfl, D.out.h.a.lt, Lib.hid (D.out.h.on ((Kept.refl _).alloc _)), Lib.hid (Blk.new _ _ _)⟩
      case rest =>
        obtain ⟨g, rfl, rfl, hpg, HW, HG⟩ := hcut
        clear D D0 KA DA c3 HPL HB
        have z1 : p ≠ g := by omega
        have z2 : g ≠ p := by omega
        have b0 := HG.out.cell 0
        have b1 := HG.out.cell 1
        have b2 := HG.out.cell 2
        have b3 := HG.out.cell 3
        have b4 := HG.out.cell 4
        have b5 := HG.out.cell 5
        have c0 := HW.out.a.cell 0
        have c1 := HW.out.a.cell 1
        have c2 := HW.out.a.cell 2
        have c3 := HW.out.a.cell 3
        have c4 := HW.out.a.cell 4
        have c5 := HW.out.a.cell 5
        have cf0 := HW.out.a.frozen 0
        have cf1 := HW.out.a.frozen 1
        have cf2 := HW.out.a.frozen 2
        have cf3 := HW.out.a.frozen 3
        have cf4 := HW.out.a.frozen 4
        have cf5 := HW.out.a.frozen 5
        go_wp2_with fail
        go_roundw
        case rel => exact ⟨i + 1, B, by omega, by omega, by go_num, HO1.out.1, Lib.hid (HW.out.six B)⟩
        case measure => simp [intOf] <;> omega
    · have HO := Lib.hid hok
      clear hok
      have hgo' : (i < n ∧ i = 60) ∨ i = n := by omega
      clear hw1 hin hi60 hgo
      rcases hgo' with ⟨hi1, rfl⟩ | rfl
      · have hz : ¬ ((60 : Int) < 60) := by omega
        have hi1 : (60 : Int) < (n : Int) := by omega
        have HQ := Lib.hid (YH.out.kept HB.out.k)
        have HQd : Hid (Blk wr.drew qy 46 #[.int .i64 a, .int .i64 z2]) := Lib.hid (HQ.out.kept (Kept.refl wr).drew)
        have Qc : Hid (wr.drew.cell? ⟨qy, 0, none⟩ = some (.int .i64 a) ∧ wr.drew.cell? ⟨qy, 1, none⟩ = some (.int .i64 z2)) := Lib.hid ⟨HQd.out.cell 0, HQd.out.cell 1⟩
        have DA : Hid (∀ o, (wr.alloc o).drew.cell? ⟨qy, 0, none⟩ = some (.int .i64 a) ∧ (wr.alloc o).drew.cell? ⟨qy, 1, none⟩ = some (.int .i64 z2)) := Lib.hid (fun o => have h := HQ.out.kept (((Kept.refl wr).alloc o).drew); ⟨h.cell 0, h.cell 1⟩)
        have DB : Hid (∀ o, (wr.drew.alloc o).cell? ⟨qy, 0, none⟩ = some (.int .i64 a) ∧ (wr.drew.alloc o).cell? ⟨qy, 1, none⟩ = some (.int .i64 z2)) := Lib.hid (fun o => have h := HQd.out.kept ((Kept.refl _).alloc o); ⟨h.cell 0, h.cell 1⟩)
        have HPL : Hid (p < wr.heap.size) := Lib.hid HB.out.a.lt
        have k1 := Lib.hid (fun W => bring_any a 9007199254740992 W (by decide) (by decide))
        have k2 := Lib.hid (fun W => bring_any z2 65535 W (by decide) (by decide))
        have sz := size_mod z2
        have v1 : IntKind.i64.wrap (1 + z2 % 65535) = 1 + z2 % 65535 := IntWalk.i64_in _ (by omega)
        have k3 := Lib.hid (fun W => acked_any R ⟨0, a % 9007199254740992, 1 + z2 % 65535, false, false, false⟩ false W)
        rw [ack_idle HO.out (tm_mod a) sz.1 sz.2, ackE_ok HO.out (tm_mod a) sz.1 sz.2] at k3
        have k4 := Lib.hid (fun W => acked_any R ⟨0, a % 9007199254740992, 1 + z2 % 65535, false, false, false⟩ true W)
        rw [ackE_ok HO.out (tm_mod a) sz.1 sz.2] at k4
        have HA := Lib.hid (ack_ok (full := true) HO.out (tm_mod a) sz.1 sz.2)
        obtain ⟨B, hB⟩ : ∃ B, ackW R (a % 9007199254740992) (1 + z2 % 65535) true = B := ⟨_, rfl⟩
        rw [show (Pk.mk 0 (a % 9007199254740992) (1 + z2 % 65535) false false false).t = a % 9007199254740992 from rfl, show (Pk.mk 0 (a % 9007199254740992) (1 + z2 % 65535) false false false).z = 1 + z2 % 65535 from rfl] at k4
        rw [hB] at k4 HA
        clear hB sz
        generalize ha : a % 9007199254740992 = aa at *
        generalize hz : z2 % 65535 = zz at *
        clear ha hz
        generalize hZ : 1 + zz = Z at *
        go_upto_region 9 with (fail)
        go_cut [11] (fun ta wx => ∃ g : Nat, ta = .pointer (some ⟨g, 0, none⟩) ∧ p < g ∧ Hid (Lw w p q x y z R wx) ∧ Hid (Blk wx g 25 #[.int .i64 0, .int .i64 aa, .int .i64 Z, .bool false, .bool false, .bool false]))
        case first =>
          go_region_held3 (fun V => V.cell? ⟨qy, 0, none⟩ = some (.int .i64 a) ∧ V.cell? ⟨qy, 1, none⟩ = some (.int .i64 z2))
            (first | with_reducible exact Qc.out | with_reducible exact DA.out _ | with_reducible exact DB.out _)
            ((go_at_call 11; (first | with_reducible refine (k1.out _).mono ?_ | with_reducible refine (k2.out _).mono ?_); rintro e w' ⟨rfl, rfl⟩))
          all_goals
            go_wp2_with fail
            go_meet
            first
              | exact ⟨_, rfl, HPL.out, Lib.hid (HB.out.on (((Kept.refl _).alloc _).drew)), Lib.hid (Blk.new _ _ _)⟩
              | exact ⟨_, rfl, HPL.out, Lib.hid (HB.out.on (((Kept.refl _).drew).alloc _)), Lib.hid (Blk.new _ _ _)⟩
        case rest =>
          obtain ⟨g, rfl, hpg, HW, HG⟩ := hcut
          clear HQ HQd DA DB Qc HPL HB k1 k2
          have z1 : p ≠ g := by omega
          have z2' : g ≠ p := by omega
          have HEQ := Lib.hid HA.out.2.2
          have HLE := Lib.hid HA.out.2.1
          have hg := guard_wn
          have n1 : ∀ w, (binOp .eql 23 (wnV R) (wnV R)).run Try.prog w = .ok (.bool true) w := fun w => by rw [eql_wn]; simp
          have t1 : B.t = R.t := HEQ.out.1
          have t2 : B.s = R.s := HEQ.out.2.1
          have t3 : decide (R.c ≤ B.c) = true := decide_eq_true HLE.out
          clear HA HEQ HLE
          obtain ⟨bd, bm, bc, bt, bs, bg⟩ := B
          simp only at t1 t2 t3
          subst t1 t2
          have c0 := HW.out.a.cell 0
          have c1 := HW.out.a.cell 1
          have c2 := HW.out.a.cell 2
          have c3 := HW.out.a.cell 3
          have c4 := HW.out.a.cell 4
          have c5 := HW.out.a.cell 5
          have m0 := HG.out.cell 0
          have m1 := HG.out.cell 1
          have m2 := HG.out.cell 2
          have m3 := HG.out.cell 3
          have m4 := HG.out.cell 4
          have m5 := HG.out.cell 5
          go_wp2_with fail
          refine (k3.out _).mono ?_
          rintro e w5 ⟨rfl, hk⟩
          have HW1 := Lib.hid (HW.out.on hk)
          have HG1 := Lib.hid (HG.out.kept hk)
          clear HW HG hk c0 c1 c2 c3 c4 c5 m0 m1 m2 m3 m4 m5 k3
          have c0 := HW1.out.a.cell 0
          have c1 := HW1.out.a.cell 1
          have c2 := HW1.out.a.cell 2
          have c3 := HW1.out.a.cell 3
          have c4 := HW1.out.a.cell 4
          have c5 := HW1.out.a.cell 5
          have m0 := HG1.out.cell 0
          have m1 := HG1.out.cell 1
          have m2 := HG1.out.cell 2
          have m3 := HG1.out.cell 3
          have m4 := HG1.out.cell 4
          have m5 := HG1.out.cell 5
          have l1 := HW1.out.a.lt
          have l2 := HG1.out.lt
          go_wp2_with fail
          refine (k4.out _).mono ?_
          rintro e w6 ⟨rfl, hk⟩
          have R6 := Lib.hid ((Blk.new w5 23 (wnA R)).kept hk)
          have HW2 := Lib.hid ((HW1.out.on ((Kept.refl _).alloc _)).on hk)
          clear HW1 HG1 hk c0 c1 c2 c3 c4 c5 m0 m1 m2 m3 m4 m5 k4 l1 l2
          have c0 := HW2.out.a.cell 0
          have c1 := HW2.out.a.cell 1
          have c2 := HW2.out.a.cell 2
          have c3 := HW2.out.a.cell 3
          have c4 := HW2.out.a.cell 4
          have c5 := HW2.out.a.cell 5
          have m0 := R6.out.cell 0
          have m1 := R6.out.cell 1
          have m2 := R6.out.cell 2
          have m3 := R6.out.cell 3
          have m4 := R6.out.cell 4
          have m5 := R6.out.cell 5
          have l1 := HW2.out.a.lt
          have l2 := R6.out.lt
          go_wp2_with fail
          refine (works_any _).mono ?_
          rintro e w7 ⟨rfl, hk⟩
          go_wp2_with fail
          go_ret
          exact ⟨rfl, KH.out.trans ((HW2.out.k.alloc _).trans hk)⟩
      · have hz : ¬ ((i : Int) < (i : Int)) := by omega
        have HQ := Lib.hid (YH.out.kept HB.out.k)
        have HQd : Hid (Blk wr.drew qy 46 #[.int .i64 a, .int .i64 z2]) := Lib.hid (HQ.out.kept (Kept.refl wr).drew)
        have Qc : Hid (wr.drew.cell? ⟨qy, 0, none⟩ = some (.int .i64 a) ∧ wr.drew.cell? ⟨qy, 1, none⟩ = some (.int .i64 z2)) := Lib.hid ⟨HQd.out.cell 0, HQd.out.cell 1⟩
        have DA : Hid (∀ o, (wr.alloc o).drew.cell? ⟨qy, 0, none⟩ = some (.int .i64 a) ∧ (wr.alloc o).drew.cell? ⟨qy, 1, none⟩ = some (.int .i64 z2)) := Lib.hid (fun o => have h := HQ.out.kept (((Kept.refl wr).alloc o).drew); ⟨h.cell 0, h.cell 1⟩)
        have DB : Hid (∀ o, (wr.drew.alloc o).cell? ⟨qy, 0, none⟩ = some (.int .i64 a) ∧ (wr.drew.alloc o).cell? ⟨qy, 1, none⟩ = some (.int .i64 z2)) := Lib.hid (fun o => have h := HQd.out.kept ((Kept.refl _).alloc o); ⟨h.cell 0, h.cell 1⟩)
        have HPL : Hid (p < wr.heap.size) := Lib.hid HB.out.a.lt
        have k1 := Lib.hid (fun W => bring_any a 9007199254740992 W (by decide) (by decide))
        have k2 := Lib.hid (fun W => bring_any z2 65535 W (by decide) (by decide))
        have sz := size_mod z2
        have v1 : IntKind.i64.wrap (1 + z2 % 65535) = 1 + z2 % 65535 := IntWalk.i64_in _ (by omega)
        have k3 := Lib.hid (fun W => acked_any R ⟨0, a % 9007199254740992, 1 + z2 % 65535, false, false, false⟩ false W)
        rw [ack_idle HO.out (tm_mod a) sz.1 sz.2, ackE_ok HO.out (tm_mod a) sz.1 sz.2] at k3
        have k4 := Lib.hid (fun W => acked_any R ⟨0, a % 9007199254740992, 1 + z2 % 65535, false, false, false⟩ true W)
        rw [ackE_ok HO.out (tm_mod a) sz.1 sz.2] at k4
        have HA := Lib.hid (ack_ok (full := true) HO.out (tm_mod a) sz.1 sz.2)
        obtain ⟨B, hB⟩ : ∃ B, ackW R (a % 9007199254740992) (1 + z2 % 65535) true = B := ⟨_, rfl⟩
        rw [show (Pk.mk 0 (a % 9007199254740992) (1 + z2 % 65535) false false false).t = a % 9007199254740992 from rfl, show (Pk.mk 0 (a % 9007199254740992) (1 + z2 % 65535) false false false).z = 1 + z2 % 65535 from rfl] at k4
        rw [hB] at k4 HA
        clear hB sz
        generalize ha : a % 9007199254740992 = aa at *
        generalize hz : z2 % 65535 = zz at *
        clear ha hz
        generalize hZ : 1 + zz = Z at *
        go_upto_region 9 with (fail)
        go_cut [11] (fun ta wx => ∃ g : Nat, ta = .pointer (some ⟨g, 0, none⟩) ∧ p < g ∧ Hid (Lw w p q x y z R wx) ∧ Hid (Blk wx g 25 #[.int .i64 0, .int .i64 aa, .int .i64 Z, .bool false, .bool false, .bool false]))
        case first =>
          go_region_held3 (fun V => V.cell? ⟨qy, 0, none⟩ = some (.int .i64 a) ∧ V.cell? ⟨qy, 1, none⟩ = some (.int .i64 z2))
            (first | with_reducible exact Qc.out | with_reducible exact DA.out _ | with_reducible exact DB.out _)
            ((go_at_call 11; (first | with_reducible refine (k1.out _).mono ?_ | with_reducible refine (k2.out _).mono ?_); rintro e w' ⟨rfl, rfl⟩))
          all_goals
            go_wp2_with fail
            go_meet
            first
              | exact ⟨_, rfl, HPL.out, Lib.hid (HB.out.on (((Kept.refl _).alloc _).drew)), Lib.hid (Blk.new _ _ _)⟩
              | exact ⟨_, rfl, HPL.out, Lib.hid (HB.out.on (((Kept.refl _).drew).alloc _)), Lib.hid (Blk.new _ _ _)⟩
        case rest =>
          obtain ⟨g, rfl, hpg, HW, HG⟩ := hcut
          clear HQ HQd DA DB Qc HPL HB k1 k2
          have z1 : p ≠ g := by omega
          have z2' : g ≠ p := by omega
          have HEQ := Lib.hid HA.out.2.2
          have HLE := Lib.hid HA.out.2.1
          have hg := guard_wn
          have n1 : ∀ w, (binOp .eql 23 (wnV R) (wnV R)).run Try.prog w = .ok (.bool true) w := fun w => by rw [eql_wn]; simp
          have t1 : B.t = R.t := HEQ.out.1
          have t2 : B.s = R.s := HEQ.out.2.1
          have t3 : decide (R.c ≤ B.c) = true := decide_eq_true HLE.out
          clear HA HEQ HLE
          obtain ⟨bd, bm, bc, bt, bs, bg⟩ := B
          simp only at t1 t2 t3
          subst t1 t2
          have c0 := HW.out.a.cell 0
          have c1 := HW.out.a.cell 1
          have c2 := HW.out.a.cell 2
          have c3 := HW.out.a.cell 3
          have c4 := HW.out.a.cell 4
          have c5 := HW.out.a.cell 5
          have m0 := HG.out.cell 0
          have m1 := HG.out.cell 1
          have m2 := HG.out.cell 2
          have m3 := HG.out.cell 3
          have m4 := HG.out.cell 4
          have m5 := HG.out.cell 5
          go_wp2_with fail
          refine (k3.out _).mono ?_
          rintro e w5 ⟨rfl, hk⟩
          have HW1 := Lib.hid (HW.out.on hk)
          have HG1 := Lib.hid (HG.out.kept hk)
          clear HW HG hk c0 c1 c2 c3 c4 c5 m0 m1 m2 m3 m4 m5 k3
          have c0 := HW1.out.a.cell 0
          have c1 := HW1.out.a.cell 1
          have c2 := HW1.out.a.cell 2
          have c3 := HW1.out.a.cell 3
          have c4 := HW1.out.a.cell 4
          have c5 := HW1.out.a.cell 5
          have m0 := HG1.out.cell 0
          have m1 := HG1.out.cell 1
          have m2 := HG1.out.cell 2
          have m3 := HG1.out.cell 3
          have m4 := HG1.out.cell 4
          have m5 := HG1.out.cell 5
          have l1 := HW1.out.a.lt
          have l2 := HG1.out.lt
          go_wp2_with fail
          refine (k4.out _).mono ?_
          rintro e w6 ⟨rfl, hk⟩
          have R6 := Lib.hid ((Blk.new w5 23 (wnA R)).kept hk)
          have HW2 := Lib.hid ((HW1.out.on ((Kept.refl _).alloc _)).on hk)
          clear HW1 HG1 hk c0 c1 c2 c3 c4 c5 m0 m1 m2 m3 m4 m5 k4 l1 l2
          have c0 := HW2.out.a.cell 0
          have c1 := HW2.out.a.cell 1
          have c2 := HW2.out.a.cell 2
          have c3 := HW2.out.a.cell 3
          have c4 := HW2.out.a.cell 4
          have c5 := HW2.out.a.cell 5
          have m0 := R6.out.cell 0
          have m1 := R6.out.cell 1
          have m2 := R6.out.cell 2
          have m3 := R6.out.cell 3
          have m4 := R6.out.cell 4
          have m5 := R6.out.cell 5
          have l1 := HW2.out.a.lt
          have l2 := R6.out.lt
          go_wp2_with fail
          refine (works_any _).mono ?_
          rintro e w7 ⟨rfl, hk⟩
          go_wp2_with fail
          go_ret
          exact ⟨rfl, KH.out.trans ((HW2.out.k.alloc _).trans hk)⟩
end Go.Proofs.Ytchnljebhbaghaa.Law
