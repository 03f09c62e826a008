/-
  The law WindowSlowly: a window that is not slow grows by one datagram, when as many bytes were acknowledged as it has.
-/
import Derived.Test.YtchnljebhbaghaaWinB
import Derived.Deep.DeepCutAuto
namespace Go.Proofs.Ytchnljebhbaghaa.Law
open Go.RowKit WinM Wd Win
set_option linter.unusedVariables false
set_option linter.unusedSimpArgs false

set_option maxRecDepth 100000 in
set_option maxHeartbeats 4000000 in
theorem windowSlowly_any (x y z : Int) (A : Option Addr) (n cap : Nat) (f : Nat → Nat → Int) (w : World) (hl : Num.Grid 1 w A n cap f) :
    Calls Try.prog 8 #[.agg #[.int .i64 x, .int .i64 y, .int .i64 z], .slice A n cap] w fun e w' => e = .returned (.bool true) ∧ Kept w w' := by
  have T0 := Lib.hid hl
  have hn : n ≤ 9223372036854775807 := by have h1 := hl.cap; have h2 := hl.most; simp only [maxLen] at h2; omega
  clear hl
  have k0 := Lib.hid (made_any x y z)
  have hokX := Lib.hid (made_ok x y z)
  have eb : Hid (badW (made x y z) 0 0 = past (made x y z).d (made x y z).m (made x y z).c 0) := Lib.hid (past_new (made_ok x y z))
  have ef : Hid (first (made x y z).d (made x y z).c (made x y z).m = made x y z) := Lib.hid rfl
  obtain ⟨X, hX⟩ : ∃ X, made x y z = X := ⟨_, rfl⟩
  rw [hX] at k0 hokX eb ef
  clear hX
  have hc2 : Hid (2 * X.d ≤ X.c) := Lib.hid hokX.out.c0
  have kb := Lib.hid (fun W => law_bad X 0 0 W)
  rw [eb.out] at kb
  have hokF : Hid (Ok (first X.d X.c X.m)) := Lib.hid (by rw [ef.out]; exact hokX.out)
  obtain ⟨C, hC⟩ : ∃ C, max (X.c / 2) (2 * X.d) = C := ⟨_, rfl⟩
  have hC0 : 0 < C ∧ C ≤ 1099511627776 := by have h1 := hokX.out.d0; have h2 := hokX.out.c0; have h3 := hokX.out.c1; have h4 := hokX.out.m1; omega
  have okP : Hid (∀ g, 0 ≤ g → g < C → Ok (past X.d X.m X.c g)) := Lib.hid (fun g h0 h1 => past_ok hokF.out h0 (by rw [hC]; exact h1))
  have cP : Hid (∀ g, (past X.d X.m X.c g).c = C) := Lib.hid (fun g => hC)
  have ksl := Lib.hid (fun W => slow_any (past X.d X.m X.c 0) W)
  rw [past_slow (okP.out 0 (by omega) hC0.1) hc2.out] at ksl
  have kck := Lib.hid (fun W => check_any (past X.d X.m X.c 0) W)
  rw [chk_ok (okP.out 0 (by omega) hC0.1)] at kck
  have less : Hid (∀ g M, 0 ≤ g → 0 ≤ M → g + M < C → up (past X.d X.m X.c g) M = past X.d X.m X.c (g + M)) := Lib.hid (fun g M h0 h1 h2 => past_less (okP.out g h0 (by omega)) hc2.out (by rw [hC]; exact h2))
  have full : Hid (∀ g M, 0 ≤ g → 0 < M → g + M = C → up (past X.d X.m X.c g) M = ⟨X.d, X.m, min (C + X.d) X.m, X.c / 2, 0, 0⟩) := Lib.hid (fun g M h0 h1 h2 => by rw [past_full (okP.out g h0 (by omega)) hc2.out (by rw [hC]; exact h2), hC])
  have hPc : Hid ((past X.d X.m X.c 0).c = C) := Lib.hid hC
  have hPt : Hid ((past X.d X.m X.c 0).t = X.c / 2) := Lib.hid rfl
  clear hC
  obtain ⟨P, hP⟩ : ∃ P, past X.d X.m X.c 0 = P := ⟨_, rfl⟩
  rw [hP] at kb ksl kck hPc hPt
  have HP := Lib.hid hP
  clear hP
  obtain ⟨W, hW, X0, K0⟩ : ∃ W, W = w.alloc (.cells #[.int .i64 x, .int .i64 y, .int .i64 z] 26) ∧ Blk W w.heap.size 26 #[.int .i64 x, .int .i64 y, .int .i64 z] ∧ Kept w W := ⟨_, rfl, Blk.new _ _ _, (Kept.refl w).alloc _⟩
  go_enter Try.func8, Try.ntmps8
  go_wp2_with fail
  rw [← hW]
  clear hW
  refine (k0.out _).mono ?_
  rintro e w2 ⟨rfl, hk⟩
  have P0 : Hid (Lw w w2.heap.size w.heap.size x y z X (w2.alloc (.cells #[.int .i64 X.d, .int .i64 X.m, .int .i64 X.c, .int .i64 X.t, .int .i64 X.s, .int .i64 X.g] 23))) := Lib.hid ⟨Blk.new _ _ _, (X0.kept hk).kept ((Kept.refl _).alloc _), (K0.trans hk).alloc _, (K0.trans hk).size⟩
  clear X0 K0 hk k0
  go_wp2_with fail
  refine (kb.out _).mono ?_
  rintro e w3 ⟨rfl, hk⟩
  have P1 := Lib.hid (P0.out.on hk)
  generalize hp : w2.heap.size = p at *
  generalize hq : w.heap.size = q at *
  clear hp hq P0 hk kb
  have c0 := P1.out.a.cell 0
  have c1 := P1.out.a.cell 1
  have c2 := P1.out.a.cell 2
  have c3 := P1.out.a.cell 3
  have c4 := P1.out.a.cell 4
  have c5 := P1.out.a.cell 5
  have cf0 := P1.out.a.frozen 0
  have cf1 := P1.out.a.frozen 1
  have cf2 := P1.out.a.frozen 2
  have cf3 := P1.out.a.frozen 3
  have cf4 := P1.out.a.frozen 4
  have cf5 := P1.out.a.frozen 5
  go_wp2_with fail
  refine (ksl.out _).mono ?_
  rintro e w4 ⟨rfl, hk⟩
  have P2 := Lib.hid ((P1.out.six P).on hk)
  clear P1 hk ksl c0 c1 c2 c3 c4 c5 cf0 cf1 cf2 cf3 cf4 cf5
  have c0 := P2.out.a.cell 0
  have c1 := P2.out.a.cell 1
  have c2 := P2.out.a.cell 2
  have c3 := P2.out.a.cell 3
  have c4 := P2.out.a.cell 4
  have c5 := P2.out.a.cell 5
  by_cases hbig : 4000000 < P.c
  · have hb1 : decide (4000000 < P.c) = true := decide_eq_true hbig
    go_wp2_with fail
    refine (kck.out _).mono ?_
    rintro e w5 ⟨rfl, hk⟩
    have K5 := Lib.hid (P2.out.k.trans hk)
    go_wp2_with fail
    refine (works_any _).mono ?_
    rintro e w6 ⟨rfl, hk6⟩
    go_wp2_with fail
    go_ret
    exact ⟨rfl, K5.out.trans hk6⟩
  · have hb1 : decide (4000000 < P.c) = false := decide_eq_false hbig
    have hC4 : C ≤ 4000000 := by have := hPc.out; omega
    have G0 : Hid (Blk (w4.alloc (.cells #[.int .i64 P.d, .int .i64 P.m, .int .i64 P.c, .int .i64 P.t, .int .i64 P.s, .int .i64 P.g] 23)) w4.heap.size 23 (wnA P)) := Lib.hid (Blk.new _ _ _)
    have P3 : Hid (Lw w p q x y z P (w4.alloc (.cells #[.int .i64 P.d, .int .i64 P.m, .int .i64 P.c, .int .i64 P.t, .int .i64 P.s, .int .i64 P.g] 23))) := Lib.hid (P2.out.on ((Kept.refl _).alloc _))
    have hpg := P2.out.a.lt
    go_wp2_with fail
    have z1 : p ≠ w4.heap.size := by omega
    generalize hg : w4.heap.size = g at *
    clear hg hpg P2 c0 c1 c2 c3 c4 c5 kck hb1 hbig
    have z2 := Ne.symm z1
    go_loopw [7, 8] (fun s7 s8 wr => ∃ (i : Nat) (r : Int) (R : Wn), s7 = .int .i64 r ∧ s8 = .int .i64 i ∧ 0 ≤ r ∧ (i : Int) + r ≤ C ∧ Hid ((0 < r → R = past X.d X.m X.c (C - r)) ∧ (r ≤ 0 → R = ⟨X.d, X.m, min (C + X.d) X.m, X.c / 2, 0, 0⟩)) ∧ Hid (Lw w p q x y z R wr) ∧ Hid (Blk wr g 23 (wnA P))) (fun s7 _ _ => (intOf s7).toNat)
    case atStart => exact ⟨0, P.c, P, rfl, rfl, by have := hPc.out; omega, by have := hPc.out; omega, Lib.hid ⟨fun _ => by rw [hPc.out, show C - C = 0 by omega, HP.out], fun h => absurd h (by have := hPc.out; omega)⟩, P3, G0⟩
    case round =>
      obtain ⟨i, r, R, rfl, rfl, hr0, hir, HR, HB, HG⟩ := hrel
      clear P3 G0
      have hw1 : IntKind.i64.wrap ((i : Int) + 1) = (i : Int) + 1 := IntWalk.i64_in _ (by omega)
      have hw2 : IntKind.i64.wrap (1 + (i : Int)) = 1 + (i : Int) := IntWalk.i64_in _ (by omega)
      by_cases hr : 0 < r
      · obtain ⟨N, hN⟩ : ∃ N, (if 65535 < r then 65535 else r) = N := ⟨_, rfl⟩
        have hN1 : 1 ≤ N ∧ N ≤ 65535 ∧ N ≤ r := by rw [← hN]; split <;> omega
        have hRp := Lib.hid (HR.out.1 hr)
        have key : Hid (∀ M : Int, 1 ≤ M → M ≤ N → ∃ B, ((0 < r - M → B = past X.d X.m X.c (C - (r - M))) ∧ (r - M ≤ 0 → B = ⟨X.d, X.m, min (C + X.d) X.m, X.c / 2, 0, 0⟩)) ∧ ∀ W, Calls Try.prog 28 #[wnV R, .int .i64 (1 + (i : Int)), .int .i64 M] W (Gives (wnV B) W)) := Lib.hid (by
          intro M h1 h2
          have hk := fun W => law_acked R (1 + (i : Int)) M W
          have hkR : Ok R := by rw [hRp.out]; exact okP.out _ (by omega) (by omega)
          have hbh : behindB R (1 + (i : Int)) = true := by rw [hRp.out]; exact decide_eq_true (.inr (by show (0 : Int) < 1 + (i : Int); omega))
          rw [ack_near hkR ⟨by omega, by omega⟩ h1 (by omega) hbh] at hk
          refine ⟨up R M, ⟨fun h => ?_, fun h => ?_⟩, hk⟩
          · rw [hRp.out, less.out (C - r) M (by omega) (by omega) (by omega), show C - r + M = C - (r - M) by omega]
          · rw [hRp.out, full.out (C - r) M (by omega) (by omega) (by omega)])
        have y1 : R.c = P.c := by rw [hRp.out, cP.out, hPc.out]
        have y2 : IntKind.i64.wrap (P.c - r) = P.c - r := by have := hPc.out; exact IntWalk.i64_in _ (by omega)
        have y3 : R.g = P.c - r := by rw [hRp.out, hPc.out]; rfl
        clear HR hRp
        obtain ⟨rd, rm, rc, rt, rs, rg⟩ := R
        simp only at y1 y3
        subst y1 y3
        obtain ⟨b, o, hcells⟩ : ∃ b o, (i < n → A = some ⟨b, o, none⟩ ∧ wr.cell? ⟨b, o + i * 1 + 0, none⟩ = some (.int .i64 (f i 0))) := by
          by_cases hlt : i < n
          · obtain ⟨b, o, e, hb, hc⟩ := (T0.out.kept HB.out.k).lies (by omega)
            exact ⟨b, o, fun _ => ⟨e, hc i hlt 0 (by omega)⟩⟩
          · exact ⟨0, 0, fun h => absurd h hlt⟩
        have m2 := HG.out.cell 2
        by_cases hin : i < n ∧ i < 50
        · obtain ⟨rfl, hv⟩ := hcells hin.1
          rw [Nat.mul_one, Nat.add_zero] at hv
          have i1 : decide ((i : Int) < (n : Int)) = true := decide_eq_true (by omega)
          have i2 : decide ((i : Int) < 50) = true := decide_eq_true (by omega)
          have i3 : (0 : Int) ≤ (i : Int) := by omega
          have i4 : (i : Int) < (n : Int) := by omega
          have k2 := Lib.hid (fun W => bring_any (f i 0) N W (by omega) (by omega))
          have hm0 := Int.emod_nonneg (f i 0) (show N ≠ 0 by omega)
          have hm1 := Int.emod_lt_of_pos (f i 0) (show 0 < N by omega)
          generalize f i 0 % N = u at *
          have v2 : IntKind.i64.wrap (1 + u) = 1 + u := IntWalk.i64_in _ (by omega)
          have v3 : IntKind.i64.wrap (r - (1 + u)) = r - (1 + u) := IntWalk.i64_in _ (by omega)
          obtain ⟨B, hB, hk3⟩ := key.out (1 + u) (by omega) (by omega)
          have k3 := Lib.hid hk3
          have HBB := Lib.hid hB
          clear hB key hcells hk3
          obtain ⟨M, hM⟩ : ∃ M, 1 + u = M := ⟨_, rfl⟩
          have hM1 : 1 ≤ M ∧ M ≤ N := by omega
          rw [hM] at v2 v3 k3 HBB
          have c0 := HB.out.a.cell 0
          have c1 := HB.out.a.cell 1
          have c2 := HB.out.a.cell 2
          have c3 := HB.out.a.cell 3
          have c4 := HB.out.a.cell 4
          have c5 := HB.out.a.cell 5
          have cf0 := HB.out.a.frozen 0
          have cf1 := HB.out.a.frozen 1
          have cf2 := HB.out.a.frozen 2
          have cf3 := HB.out.a.frozen 3
          have cf4 := HB.out.a.frozen 4
          have cf5 := HB.out.a.frozen 5
          go_wp2_with (go_at_call 11; refine (k2.out _).mono ?_; rintro e w' ⟨rfl, rfl⟩)
          refine (k3.out _).mono ?_
          rintro e w5 ⟨rfl, hk⟩
          have HC := Lib.hid (HB.out.on hk)
          have HH := Lib.hid (HG.out.kept hk)
          clear HB HG hk c0 c1 c2 c3 c4 c5 cf0 cf1 cf2 cf3 cf4 cf5 m2
          have c0 := HC.out.a.cell 0
          have c1 := HC.out.a.cell 1
          have c2 := HC.out.a.cell 2
          have c3 := HC.out.a.cell 3
          have c4 := HC.out.a.cell 4
          have c5 := HC.out.a.cell 5
          have cf0 := HC.out.a.frozen 0
          have cf1 := HC.out.a.frozen 1
          have cf2 := HC.out.a.frozen 2
          have cf3 := HC.out.a.frozen 3
          have cf4 := HC.out.a.frozen 4
          have cf5 := HC.out.a.frozen 5
          go_wp2_with fail
          go_roundw
          case rel => exact ⟨i + 1, r - M, B, rfl, by go_num, by omega, by omega, HBB, Lib.hid (HC.out.six B), Lib.hid (six_far HH.out z2 B)⟩
          case measure => simp [intOf] <;> omega
        · have v3 : IntKind.i64.wrap (r - N) = r - N := IntWalk.i64_in _ (by omega)
          obtain ⟨B, hB, hk3⟩ := key.out N (by omega) (by omega)
          have k3 := Lib.hid hk3
          have HBB := Lib.hid hB
          clear hB key hcells hk3
          by_cases hlt : i < n
          · have i1 : decide ((i : Int) < (n : Int)) = true := decide_eq_true (by omega)
            have i2 : decide ((i : Int) < 50) = false := decide_eq_false (by omega)
            have c0 := HB.out.a.cell 0
            have c1 := HB.out.a.cell 1
            have c2 := HB.out.a.cell 2
            have c3 := HB.out.a.cell 3
            have c4 := HB.out.a.cell 4
            have c5 := HB.out.a.cell 5
            have cf0 := HB.out.a.frozen 0
            have cf1 := HB.out.a.frozen 1
            have cf2 := HB.out.a.frozen 2
            have cf3 := HB.out.a.frozen 3
            have cf4 := HB.out.a.frozen 4
            have cf5 := HB.out.a.frozen 5
            go_wp2_with fail
            refine (k3.out _).mono ?_
            rintro e w5 ⟨rfl, hk⟩
            have HC := Lib.hid (HB.out.on hk)
            have HH := Lib.hid (HG.out.kept hk)
            clear HB HG hk c0 c1 c2 c3 c4 c5 cf0 cf1 cf2 cf3 cf4 cf5 m2
            have c0 := HC.out.a.cell 0
            have c1 := HC.out.a.cell 1
            have c2 := HC.out.a.cell 2
            have c3 := HC.out.a.cell 3
            have c4 := HC.out.a.cell 4
            have c5 := HC.out.a.cell 5
            have cf0 := HC.out.a.frozen 0
            have cf1 := HC.out.a.frozen 1
            have cf2 := HC.out.a.frozen 2
            have cf3 := HC.out.a.frozen 3
            have cf4 := HC.out.a.frozen 4
            have cf5 := HC.out.a.frozen 5
            go_wp2_with fail
            go_roundw
            case rel => exact ⟨i + 1, r - N, B, rfl, by go_num, by omega, by omega, HBB, Lib.hid (HC.out.six B), Lib.hid (six_far HH.out z2 B)⟩
            case measure => simp [intOf] <;> omega
          · have i1 : decide ((i : Int) < (n : Int)) = false := decide_eq_false (by omega)
            have c0 := HB.out.a.cell 0
            have c1 := HB.out.a.cell 1
            have c2 := HB.out.a.cell 2
            have c3 := HB.out.a.cell 3
            have c4 := HB.out.a.cell 4
            have c5 := HB.out.a.cell 5
            have cf0 := HB.out.a.frozen 0
            have cf1 := HB.out.a.frozen 1
            have cf2 := HB.out.a.frozen 2
            have cf3 := HB.out.a.frozen 3
            have cf4 := HB.out.a.frozen 4
            have cf5 := HB.out.a.frozen 5
            go_wp2_with fail
            refine (k3.out _).mono ?_
            rintro e w5 ⟨rfl, hk⟩
            have HC := Lib.hid (HB.out.on hk)
            have HH := Lib.hid (HG.out.kept hk)
            clear HB HG hk c0 c1 c2 c3 c4 c5 cf0 cf1 cf2 cf3 cf4 cf5 m2
            have c0 := HC.out.a.cell 0
            have c1 := HC.out.a.cell 1
            have c2 := HC.out.a.cell 2
            have c3 := HC.out.a.cell 3
            have c4 := HC.out.a.cell 4
            have c5 := HC.out.a.cell 5
            have cf0 := HC.out.a.frozen 0
            have cf1 := HC.out.a.frozen 1
            have cf2 := HC.out.a.frozen 2
            have cf3 := HC.out.a.frozen 3
            have cf4 := HC.out.a.frozen 4
            have cf5 := HC.out.a.frozen 5
            go_wp2_with fail
            go_roundw
            case rel => exact ⟨i + 1, r - N, B, rfl, by go_num, by omega, by omega, HBB, Lib.hid (HC.out.six B), Lib.hid (six_far HH.out z2 B)⟩
            case measure => simp [intOf] <;> omega
      · obtain rfl : r = 0 := by omega
        have hr' : decide ((0 : Int) < 0) = false := rfl
        have hRf := Lib.hid (HR.out.2 (by omega))
        have q1 : IntKind.i64.wrap (P.c + R.d) = P.c + R.d := by have h1 := hPc.out; have h2 : R.d = X.d := by rw [hRf.out]
                                                                 have h3 := hokX.out.d0; have h4 := hokX.out.d1; exact IntWalk.i64_in _ (by omega)
        obtain ⟨Y, hY⟩ : ∃ Y, (if R.m < P.c + R.d then R.m else P.c + R.d) = Y := ⟨_, rfl⟩
        have e1 : (R.c == Y) = true := by
          rw [beq_iff_eq, ← hY, hPc.out]
          have h1 : R.c = min (C + X.d) X.m := by rw [hRf.out]
          have h2 : R.d = X.d := by rw [hRf.out]
          have h3 : R.m = X.m := by rw [hRf.out]
          rw [h1, h2, h3]; omega
        have e2 : (R.g == 0) = true := by rw [hRf.out]; rfl
        have e3 : (R.t == P.t) = true := by rw [beq_iff_eq, hPt.out, hRf.out]
        clear HR hRf
        have c0 := HB.out.a.cell 0
        have c1 := HB.out.a.cell 1
        have c2 := HB.out.a.cell 2
        have c3 := HB.out.a.cell 3
        have c4 := HB.out.a.cell 4
        have c5 := HB.out.a.cell 5
        have m2 := HG.out.cell 2
        have m3 := HG.out.cell 3
        go_wp2_with fail
        refine (works_any _).mono ?_
        rintro e w6 ⟨rfl, hk⟩
        go_wp2_with fail
        go_ret
        exact ⟨rfl, HB.out.k.trans hk⟩
end Go.Proofs.Ytchnljebhbaghaa.Law
