/-
  The law LossTimer: from now on to the time that is told no other one is lost; at that time one is.
-/
import Derived.Test.YtilfimlojpejhaaLosH
namespace Go.Proofs.Ytilfimlojpejhaa.Law
open Go.RowKit SntM Cd Wd LosM Los Num
open Snt (pkC pkV pkA PRow pkE)
open Rtt (rtV rtA Gives Same GBool)
open RttM (Rt chk great)
set_option linter.unusedVariables false
set_option linter.unusedSimpArgs false

set_option maxRecDepth 100000 in
set_option maxHeartbeats 8000000 in
theorem lossTimer_any (A : Option Addr) (n c : Nat) (f : Nat → Nat → Int) (x0 x1 x2 m0 m1 : Int) (w : World) (g : Grid 3 w A n c f) :
    Calls Try.prog 7 #[.slice A n c, .agg #[.int .i64 x0, .int .i64 x1, .int .i64 x2], .agg #[.int .i64 m0, .int .i64 m1]] w (GBool true w) := by
  obtain ⟨W, hW, bx, br, kw⟩ := Rtt.two w #[.int .i64 x0, .int .i64 x1, .int .i64 x2] #[.int .i64 m0, .int .i64 m1] 45 23
  have D : Hid (Hd w W w.heap.size (w.heap.size + 1) 45 #[.int .i64 x0, .int .i64 x1, .int .i64 x2] m0 m1) := Lib.hid ⟨bx, br, kw⟩
  have G := Lib.hid (g.kept kw)
  clear g bx br kw
  go_enter Try.func7, Try.ntmps7
  go_upto_region 1 with (fail)
  change Code.wp _ _ _ _ ((w.alloc (.cells #[.int .i64 x0, .int .i64 x1, .int .i64 x2] 45)).alloc (.cells #[.int .i64 m0, .int .i64 m1] 23))
  rw [← hW]
  clear hW
  generalize hq : w.heap.size + 1 = q at *
  generalize hp : w.heap.size = p at *
  have HP := Lib.hid hp
  clear hq hp
  have cP := Lib.hid (fun W' (k : Kept W W') => packets_any A n c f W' (G.out.kept k))
  have cM := Lib.hid (fun W' => measure_any m0 m1 W')
  have KW := Lib.hid ((Kept.refl W).drew)
  have D0 := D
  have KZ := Lib.hid (((Kept.refl W).alloc (.cells #[.int .i64 0, .int .i64 0, .int .i64 0, .int .i64 0, .int .i64 0] 25)).drew)
  have D := Lib.hid (D.out.on KW.out)
  unfold MRow at cP
  rw [pks_len] at cP
  have hk60 : min n 60 ≤ 60 := Nat.min_le_right _ _
  have hOK := Lib.hid (pks_ok f hk60)
  have hLN := Lib.hid (pks_len f (min n 60))
  have hRK := Lib.hid (mr_ok m0 m1)
  have hLT := Lib.hid (pks_t f (min n 60))
  have hRW := Lib.hid (mr_wait m0 m1)
  have hRG := Lib.hid (mr_great m0 m1)
  generalize pks f (min n 60) = L at *
  obtain ⟨r, hr⟩ : ∃ r, mr m0 m1 = r := ⟨_, rfl⟩
  rw [hr] at cM hRK hRW hRG
  obtain ⟨T, hT⟩ : ∃ T, wait r = T := ⟨_, rfl⟩
  rw [hT] at hRW
  have HT := Lib.hid hT
  clear hT
  have HR := Lib.hid hr
  clear hr
  generalize min n 60 = k at *
  go_cut [7, 8] (fun s7 s8 wx => ∃ (A1 : Option Addr) (c1 Y : Nat), s7 = .slice A1 k c1 ∧ s8 = .pointer (some ⟨Y, 0, none⟩) ∧ Hid (Pr w wx p q 45 #[.int .i64 x0, .int .i64 x1, .int .i64 x2] m0 m1 A1 k c1 Y L r))
  case first =>
    go_region_held3 (fun W => W.cell? ⟨q, 0, none⟩ = some (.int .i64 m0) ∧ W.cell? ⟨q, 1, none⟩ = some (.int .i64 m1))
      (first
        | with_reducible exact D.out.two
        | with_reducible exact (D.out.on ((Kept.refl _).alloc _)).two
        | with_reducible exact (D0.out.on (((Kept.refl _).alloc _).drew)).two
        | (refine ⟨?_, ?_⟩ <;> repeat' (first | with_reducible exact D.out.two.1 | with_reducible exact D.out.two.2 | with_reducible refine drew_cell ?_ | with_reducible refine far_cell ?_ zne)))
      (first
        | (go_at_call 19; (with_reducible refine (cP.out _ KW.out).mono ?_); rintro e w1 ⟨A1, c1, rfl, hr, hf, hk⟩; have P := Lib.hid hr; have D := Lib.hid (D.out.on hk); clear hr hf hk)
        | (go_at_call 19; (with_reducible refine (cP.out _ KZ.out).mono ?_); rintro e w1 ⟨A1, c1, rfl, hr, hf, hk⟩; have P := Lib.hid hr; have Z := Lib.hid ((Zb.newd D0.out.k).on hk); have D := Lib.hid ((D0.out.on ((Kept.refl _).alloc _).drew).on hk); clear hr hf hk)
        | (go_at_call 20; (with_reducible refine (cM.out (World.alloc _ _)).mono ?_); rintro e w2 ⟨rfl, hk⟩; have P := Lib.hid (P.out.kept (((Kept.refl _).alloc _).trans hk)); have Z := Lib.hid ((Zb.new D.out.k).on hk); have D := Lib.hid (D.out.on (((Kept.refl _).alloc _).trans hk)); have z0 := Z.out.b.cell 0; have z1 := Z.out.b.cell 1; have z2 := Z.out.b.cell 2; have z3 := Z.out.b.cell 3; have z4 := Z.out.b.cell 4; have y0 := Z.out.b.frozen 0; have y1 := Z.out.b.frozen 1; have y2 := Z.out.b.frozen 2; have y3 := Z.out.b.frozen 3; have y4 := Z.out.b.frozen 4; have zl := Z.out.b.lt; have zne := D.out.m.ne_ Z.out.b (by decide); clear hk)
        | (go_at_call 20; (with_reducible refine (cM.out _).mono ?_); rintro e w2 ⟨rfl, hk⟩; have Z := Lib.hid (Z.out.on hk); have P := Lib.hid (P.out.kept hk); have D := Lib.hid (D.out.on hk); have z0 := Z.out.b.cell 0; have z1 := Z.out.b.cell 1; have z2 := Z.out.b.cell 2; have z3 := Z.out.b.cell 3; have z4 := Z.out.b.cell 4; have y0 := Z.out.b.frozen 0; have y1 := Z.out.b.frozen 1; have y2 := Z.out.b.frozen 2; have y3 := Z.out.b.frozen 3; have y4 := Z.out.b.frozen 4; have zl := Z.out.b.lt; have zne := D.out.m.ne_ Z.out.b (by decide); clear hk)
        | (go_at_call 20; (with_reducible refine (cM.out _).mono ?_); rintro e w2 ⟨rfl, hk⟩; have P := Lib.hid (P.out.kept hk); have D := Lib.hid (D.out.on hk); clear hk))
    all_goals
      go_wp2_with fail
      go_meet
      first
        | with_reducible exact ⟨_, _, _, rfl, rfl, Lib.hid (Pr.new r D.out P.out)⟩
        | exact ⟨_, _, _, rfl, rfl, Lib.hid (Pr.put r D.out P.out Z.out (by decide))⟩
  case rest =>
    obtain ⟨A1, c1, Y, rfl, rfl, Q⟩ := hcut
    clear D D0 cP cM KW KZ G
    have hm0 := Int.emod_nonneg x0 (show (260 : Int) ≠ 0 by omega)
    have hm1 := Int.emod_lt_of_pos x0 (show (0 : Int) < 260 by omega)
    have hn0 := Int.emod_nonneg x1 (show (2251799813685248 : Int) ≠ 0 by omega)
    have hn1 := Int.emod_lt_of_pos x1 (show (0 : Int) < 2251799813685248 by omega)
    have b0 := Lib.hid (fun W => bring_any x0 260 W (by omega) (by omega))
    have b1 := Lib.hid (fun W => bring_any x1 2251799813685248 W (by omega) (by omega))
    obtain ⟨a, ha⟩ : ∃ a, x0 % 260 - 1 = a := ⟨_, rfl⟩
    have hwa : IntKind.i64.wrap (x0 % 260 - 1) = a := by rw [IntWalk.i64_in _ (by omega)]; exact ha
    generalize x1 % 2251799813685248 = now at *
    have hab : -1 ≤ a ∧ a ≤ 258 := by omega
    clear ha hm0 hm1
    have v0 : _ = some (Value.int .i64 x0) := Q.out.hd.x.cell 0
    have v1 : _ = some (Value.int .i64 x1) := Q.out.hd.x.cell 1
    go_upto_region 2 with (fail)
    go_cut [9, 10] (fun s9 s10 wx => s9 = .int .i64 a ∧ s10 = .int .i64 now ∧ Hid (Pr w wx p q 45 #[.int .i64 x0, .int .i64 x1, .int .i64 x2] m0 m1 A1 k c1 Y L r))
    case first =>
      go_quiet ((first | (go_at_call 21; with_reducible exact quiet_same (b0.out _)) | (go_at_call 21; with_reducible exact quiet_same (b1.out _))))
      go_wp2_with fail
      go_meet
      exact ⟨rfl, rfl, Lib.hid (Q.out.on ((Kept.refl _).drewN _))⟩
    case rest =>
      obtain ⟨rfl, rfl, Q⟩ := hcut
      clear v0 v1 b0 b1 hwa
      have hwt := hRW.out
      obtain ⟨r0, r1, r2, r3, r4⟩ := Q.out.cells
      go_wp2_with fail
      refine (find_at hOK.out hRK.out HT.out (by omega) (by omega) A1 k c1 _ (Src.of_row Q.out.l)).mono ?_
      rintro e w3 ⟨B1, n1, d1, C1, o1, g1, rfl, F1⟩
      have Q := Lib.hid (Q.out.on F1.k)
      have F1 := Lib.hid F1
      clear r0 r1 r2 r3 r4
      have hdd := Lib.hid (fun p (hp : p ∈ L) => (by have := hLT.out p hp; omega : 0 ≤ p.t ∧ p.t + T ≤ 9007199254740991))
      have hd0 : Hid (∀ p ∈ L, 0 ≤ LosM.due T p) := Lib.hid (fun p hp => by have := hdd.out p hp; unfold LosM.due; omega)
      obtain ⟨X, hX⟩ : ∃ X, atF a now T L = X := ⟨_, rfl⟩
      by_cases hx : X = -1
      · have t1 : (X == -1) = true := by simp [hx]
        have hnv := Lib.hid (fun p (hp : p ∈ restL a now T L) => timer_never hd0.out (hX.trans hx) hp)
        rw [hX]
        clear hX hx
        by_cases hm : o1 = 0
        · have t2 : ((o1 : Int) == 0) = true := by simp [hm]
          clear hm
          go_wp2_with fail
          refine (works_any _).mono ?_
          rintro e w4 ⟨rfl, k4⟩
          go_wp2_with fail
          go_ret
          exact ⟨rfl, Q.out.hd.k.trans k4⟩
        · have t2 : ((o1 : Int) == 0) = false := by simp [hm]
          have hpos : 0 < o1 := by omega
          obtain ⟨g, rfl, hg⟩ := F1.out.r.some_ hpos
          have c0 : w3.cell? ⟨g, 0, none⟩ = some (.int .i64 (at_ (restL a now T L) 0).n) := (Snt.prow_cells F1.out.r (k := 0) hpos).1
          have hlt : decide (a < (at_ (restL a now T L) 0).n) = true := decide_eq_true (hnv.out _ (at_mem (by rw [F1.out.r.len]; exact hpos)))
          have ho0 : (0 : Int) < (o1 : Int) := by omega
          generalize (at_ (restL a now T L) 0).n = z at *
          go_wp2_with fail
          refine (works_any _).mono ?_
          rintro e w4 ⟨rfl, k4⟩
          go_wp2_with fail
          go_ret
          exact ⟨rfl, Q.out.hd.k.trans k4⟩
      · have t1 : (X == -1) = false := by simp [hx]
        obtain ⟨y1, y2, y3, y4, y5⟩ := timer_math hdd.out (by omega) (by rw [hX]; exact hx)
        rw [hX] at y1 y2 y3 y4 y5 ⊢
        have Y3 := Lib.hid y3
        have Y4 := Lib.hid y4
        have Y5 := Lib.hid y5
        clear hX hx y3 y4 y5
        have t2 : decide (X ≤ now) = false := decide_eq_false (by omega)
        have t3 : decide (9007199254740991 < X) = false := decide_eq_false (by omega)
        have hj0 := Int.emod_nonneg x2 (show X - now ≠ 0 by omega)
        have hj1 := Int.emod_lt_of_pos x2 (show (0 : Int) < X - now by omega)
        have b2 := Lib.hid (fun W => bring_any x2 (X - now) W (by omega) (by omega))
        have hw2 : IntKind.i64.wrap (X - now) = X - now := IntWalk.i64_in _ (by omega)
        generalize hj : x2 % (X - now) = j at *
        clear hj
        have hw3 : IntKind.i64.wrap (now + j) = now + j := IntWalk.i64_in _ (by omega)
        obtain ⟨y6, y7⟩ := Y3.out (now + j) (by omega) (by omega)
        have cF := Lib.hid (fun W h => find_at (a := a) (now := now + j) hOK.out hRK.out HT.out (by omega) (by omega) A1 k c1 W h)
        unfold Finds at cF
        rw [y6, y7] at cF
        clear y6 y7
        have hnow2 : -1 ≤ now + j := by omega
        go_upto_region 10 with (fail)
        have D := Lib.hid (Q.out.on (Kept.refl w3).drew)
        have F1 := Lib.hid (F1.out.on (Kept.refl w3).drew)
        have cG := Lib.hid (fun W h => find_at (a := a) (now := X) hOK.out hRK.out HT.out (by omega) (by omega) A1 k c1 W h)
        unfold Finds at cG
        obtain ⟨nx, hnx⟩ : ∃ nx, atF a X T L = nx := ⟨_, rfl⟩
        rw [hnx] at cG Y5
        clear hnx
        have hS := Lib.hid (fun W (h : Pr w W p q 45 #[.int .i64 x0, .int .i64 x1, .int .i64 x2] m0 m1 A1 k c1 Y L r) => (⟨h.hd.x.cell 2, h.cells⟩ : W.cell? ⟨p, 2, none⟩ = some (.int .i64 x2) ∧ W.cell? ⟨Y, 0, none⟩ = some (.int .i64 r.l) ∧ W.cell? ⟨Y, 1, none⟩ = some (.int .i64 r.m) ∧ W.cell? ⟨Y, 2, none⟩ = some (.int .i64 r.s) ∧ W.cell? ⟨Y, 3, none⟩ = some (.int .i64 r.v) ∧ W.cell? ⟨Y, 4, none⟩ = some (.int .i64 r.f)))
        go_region_held3 (fun W => W.cell? ⟨p, 2, none⟩ = some (.int .i64 x2) ∧ W.cell? ⟨Y, 0, none⟩ = some (.int .i64 r.l) ∧ W.cell? ⟨Y, 1, none⟩ = some (.int .i64 r.m) ∧ W.cell? ⟨Y, 2, none⟩ = some (.int .i64 r.s) ∧ W.cell? ⟨Y, 3, none⟩ = some (.int .i64 r.v) ∧ W.cell? ⟨Y, 4, none⟩ = some (.int .i64 r.f))
          (exact hS.out _ D.out)
          (first
            | (go_at_call 21; with_reducible refine (b2.out _).mono ?_; rintro e w' ⟨rfl, rfl⟩)
            | (go_at_call 11; (with_reducible refine (cF.out _ (Src.of_row D.out.l)).mono ?_); rintro e w4 ⟨B2, n2, d2, C2, o2, g2, rfl, F2⟩; have D := Lib.hid (D.out.on F2.k); have F1 := Lib.hid (F1.out.on F2.k); have F2 := Lib.hid F2))
        all_goals
          obtain ⟨r0, r1, r2, r3, r4⟩ := D.out.cells
          go_wp2_with fail
          with_reducible refine (cG.out _ (Src.of_row D.out.l)).mono ?_
          rintro e w5 ⟨B3, n3, d3, C3, o3, g3, rfl, F3⟩
          have D := Lib.hid (D.out.on F3.k)
          have G1 := Lib.hid (F1.out.on F3.k)
          have G2 := Lib.hid (F2.out.on F3.k)
          have hlen := Y4.out
          rw [F3.l.len, G1.out.l.len] at hlen
          clear r0 r1 r2 r3 r4 F3
          have u1 : decide ((n1 : Int) < (n3 : Int)) = true := decide_eq_true (by omega)
          have u2 : decide (n1 < n3) = true := decide_eq_true hlen
          go_wp2_with fail
          refine (same_is (b := true) (by simp) (Src.of_row G2.out.l) (Src.of_row G1.out.l)).mono ?_
          rintro e w6 ⟨rfl, k6⟩
          have D := Lib.hid (D.out.on k6)
          clear k6
          rcases Y5.out with h5 | h5
          · have u3 : (nx == -1) = true := by simp [h5]
            clear h5
            go_wp2_with fail
            refine (works_any _).mono ?_
            rintro e w7 ⟨rfl, k7⟩
            go_wp2_with fail
            go_ret
            exact ⟨rfl, D.out.hd.k.trans k7⟩
          · have u3 : (nx == -1) = false := by
              simp only [beq_eq_false_iff_ne]
              omega
            have u4 : decide (X < nx) = true := decide_eq_true h5
            clear h5
            go_wp2_with fail
            refine (works_any _).mono ?_
            rintro e w7 ⟨rfl, k7⟩
            go_wp2_with fail
            go_ret
            exact ⟨rfl, D.out.hd.k.trans k7⟩


end Go.Proofs.Ytilfimlojpejhaa.Law
