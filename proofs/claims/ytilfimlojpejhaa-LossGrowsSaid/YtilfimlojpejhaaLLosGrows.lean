/-
  The law LossGrows: at a later time, and behind a greater number, all that was lost is lost, too.
-/
import Derived.Test.YtilfimlojpejhaaLosH
namespace Go.Proofs.Ytilfimlojpejhaa.Law
open Go.RowKit SntM Cd Wd LosM Los Num
open Snt (pkC pkV pkA PRow pkE)
open Rtt (rtV rtA Gives Same GBool)
open RttM (Rt chk great)
set_option linter.unusedVariables false
set_option linter.unusedSimpArgs false

set_option maxRecDepth 100000 in
set_option maxHeartbeats 8000000 in
theorem lossGrows_any (A : Option Addr) (n c : Nat) (f : Nat → Nat → Int) (x0 x1 x2 x3 m0 m1 : Int) (w : World) (g : Grid 3 w A n c f) :
    Calls Try.prog 6 #[.slice A n c, .agg #[.int .i64 x0, .int .i64 x1, .int .i64 x2, .int .i64 x3], .agg #[.int .i64 m0, .int .i64 m1]] w (GBool true w) := by
  obtain ⟨W, hW, bx, br, kw⟩ := Rtt.two w #[.int .i64 x0, .int .i64 x1, .int .i64 x2, .int .i64 x3] #[.int .i64 m0, .int .i64 m1] 43 23
  have D : Hid (Hd w W w.heap.size (w.heap.size + 1) 43 #[.int .i64 x0, .int .i64 x1, .int .i64 x2, .int .i64 x3] m0 m1) := Lib.hid ⟨bx, br, kw⟩
  have G := Lib.hid (g.kept kw)
  clear g bx br kw
  go_enter Try.func6, Try.ntmps6
  go_upto_region 1 with (fail)
  change Code.wp _ _ _ _ ((w.alloc (.cells #[.int .i64 x0, .int .i64 x1, .int .i64 x2, .int .i64 x3] 43)).alloc (.cells #[.int .i64 m0, .int .i64 m1] 23))
  rw [← hW]
  clear hW
  generalize hq : w.heap.size + 1 = q at *
  generalize hp : w.heap.size = p at *
  have HP := Lib.hid hp
  clear hq hp
  have cP := Lib.hid (fun W' (k : Kept W W') => packets_any A n c f W' (G.out.kept k))
  have cM := Lib.hid (fun W' => measure_any m0 m1 W')
  have KW := Lib.hid ((Kept.refl W).drew)
  have D0 := D
  have KZ := Lib.hid (((Kept.refl W).alloc (.cells #[.int .i64 0, .int .i64 0, .int .i64 0, .int .i64 0, .int .i64 0] 25)).drew)
  have D := Lib.hid (D.out.on KW.out)
  unfold MRow at cP
  rw [pks_len] at cP
  have hk60 : min n 60 ≤ 60 := Nat.min_le_right _ _
  have hOK := Lib.hid (pks_ok f hk60)
  have hLN := Lib.hid (pks_len f (min n 60))
  have hRK := Lib.hid (mr_ok m0 m1)
  have hLT := Lib.hid (pks_t f (min n 60))
  have hRW := Lib.hid (mr_wait m0 m1)
  have hRG := Lib.hid (mr_great m0 m1)
  generalize pks f (min n 60) = L at *
  obtain ⟨r, hr⟩ : ∃ r, mr m0 m1 = r := ⟨_, rfl⟩
  rw [hr] at cM hRK hRW hRG
  obtain ⟨T, hT⟩ : ∃ T, wait r = T := ⟨_, rfl⟩
  rw [hT] at hRW
  have HT := Lib.hid hT
  clear hT
  have HR := Lib.hid hr
  clear hr
  generalize min n 60 = k at *
  go_cut [7, 8] (fun s7 s8 wx => ∃ (A1 : Option Addr) (c1 Y : Nat), s7 = .slice A1 k c1 ∧ s8 = .pointer (some ⟨Y, 0, none⟩) ∧ Hid (Pr w wx p q 43 #[.int .i64 x0, .int .i64 x1, .int .i64 x2, .int .i64 x3] m0 m1 A1 k c1 Y L r))
  case first =>
    go_region_held3 (fun W => W.cell? ⟨q, 0, none⟩ = some (.int .i64 m0) ∧ W.cell? ⟨q, 1, none⟩ = some (.int .i64 m1))
      (first
        | with_reducible exact D.out.two
        | with_reducible exact (D.out.on ((Kept.refl _).alloc _)).two
        | with_reducible exact (D0.out.on (((Kept.refl _).alloc _).drew)).two
        | (refine ⟨?_, ?_⟩ <;> repeat' (first | with_reducible exact D.out.two.1 | with_reducible exact D.out.two.2 | with_reducible refine drew_cell ?_ | with_reducible refine far_cell ?_ zne)))
      (first
        | (go_at_call 19; (with_reducible refine (cP.out _ KW.out).mono ?_); rintro e w1 ⟨A1, c1, rfl, hr, hf, hk⟩; have P := Lib.hid hr; have D := Lib.hid (D.out.on hk); clear hr hf hk)
        | (go_at_call 19; (with_reducible refine (cP.out _ KZ.out).mono ?_); rintro e w1 ⟨A1, c1, rfl, hr, hf, hk⟩; have P := Lib.hid hr; have Z := Lib.hid ((Zb.newd D0.out.k).on hk); have D := Lib.hid ((D0.out.on ((Kept.refl _).alloc _).drew).on hk); clear hr hf hk)
        | (go_at_call 20; (with_reducible refine (cM.out (World.alloc _ _)).mono ?_); rintro e w2 ⟨rfl, hk⟩; have P := Lib.hid (P.out.kept (((Kept.refl _).alloc _).trans hk)); have Z := Lib.hid ((Zb.new D.out.k).on hk); have D := Lib.hid (D.out.on (((Kept.refl _).alloc _).trans hk)); have z0 := Z.out.b.cell 0; have z1 := Z.out.b.cell 1; have z2 := Z.out.b.cell 2; have z3 := Z.out.b.cell 3; have z4 := Z.out.b.cell 4; have y0 := Z.out.b.frozen 0; have y1 := Z.out.b.frozen 1; have y2 := Z.out.b.frozen 2; have y3 := Z.out.b.frozen 3; have y4 := Z.out.b.frozen 4; have zl := Z.out.b.lt; have zne := D.out.m.ne_ Z.out.b (by decide); clear hk)
        | (go_at_call 20; (with_reducible refine (cM.out _).mono ?_); rintro e w2 ⟨rfl, hk⟩; have Z := Lib.hid (Z.out.on hk); have P := Lib.hid (P.out.kept hk); have D := Lib.hid (D.out.on hk); have z0 := Z.out.b.cell 0; have z1 := Z.out.b.cell 1; have z2 := Z.out.b.cell 2; have z3 := Z.out.b.cell 3; have z4 := Z.out.b.cell 4; have y0 := Z.out.b.frozen 0; have y1 := Z.out.b.frozen 1; have y2 := Z.out.b.frozen 2; have y3 := Z.out.b.frozen 3; have y4 := Z.out.b.frozen 4; have zl := Z.out.b.lt; have zne := D.out.m.ne_ Z.out.b (by decide); clear hk)
        | (go_at_call 20; (with_reducible refine (cM.out _).mono ?_); rintro e w2 ⟨rfl, hk⟩; have P := Lib.hid (P.out.kept hk); have D := Lib.hid (D.out.on hk); clear hk))
    all_goals
      go_wp2_with fail
      go_meet
      first
        | with_reducible exact ⟨_, _, _, rfl, rfl, Lib.hid (Pr.new r D.out P.out)⟩
        | exact ⟨_, _, _, rfl, rfl, Lib.hid (Pr.put r D.out P.out Z.out (by decide))⟩
  case rest =>
    obtain ⟨A1, c1, Y, rfl, rfl, Q⟩ := hcut
    clear D D0 cP cM KW KZ G
    have hm0 := Int.emod_nonneg x0 (show (260 : Int) ≠ 0 by omega)
    have hm1 := Int.emod_lt_of_pos x0 (show (0 : Int) < 260 by omega)
    have hn0 := Int.emod_nonneg x1 (show (2251799813685248 : Int) ≠ 0 by omega)
    have hn1 := Int.emod_lt_of_pos x1 (show (0 : Int) < 2251799813685248 by omega)
    have hu0 := Int.emod_nonneg x2 (show (20 : Int) ≠ 0 by omega)
    have hu1 := Int.emod_lt_of_pos x2 (show (0 : Int) < 20 by omega)
    have hv0 := Int.emod_nonneg x3 (show (2251799813685248 : Int) ≠ 0 by omega)
    have hv1 := Int.emod_lt_of_pos x3 (show (0 : Int) < 2251799813685248 by omega)
    have b0 := Lib.hid (fun W => bring_any x0 260 W (by omega) (by omega))
    have b1 := Lib.hid (fun W => bring_any x1 2251799813685248 W (by omega) (by omega))
    have b2 := Lib.hid (fun W => bring_any x2 20 W (by omega) (by omega))
    have b3 := Lib.hid (fun W => bring_any x3 2251799813685248 W (by omega) (by omega))
    obtain ⟨a, ha⟩ : ∃ a, x0 % 260 - 1 = a := ⟨_, rfl⟩
    have hwa : IntKind.i64.wrap (x0 % 260 - 1) = a := by rw [IntWalk.i64_in _ (by omega)]; exact ha
    generalize x1 % 2251799813685248 = now at *
    generalize x2 % 20 = ua at *
    generalize x3 % 2251799813685248 = un at *
    have hab : -1 ≤ a ∧ a ≤ 258 := by omega
    have hw2 : IntKind.i64.wrap (a + ua) = a + ua := IntWalk.i64_in _ (by omega)
    have hw3 : IntKind.i64.wrap (now + un) = now + un := IntWalk.i64_in _ (by omega)
    clear ha hm0 hm1
    have v0 : _ = some (Value.int .i64 x0) := Q.out.hd.x.cell 0
    have v1 : _ = some (Value.int .i64 x1) := Q.out.hd.x.cell 1
    go_upto_region 2 with (fail)
    go_cut [9, 10] (fun s9 s10 wx => s9 = .int .i64 a ∧ s10 = .int .i64 now ∧ Hid (Pr w wx p q 43 #[.int .i64 x0, .int .i64 x1, .int .i64 x2, .int .i64 x3] m0 m1 A1 k c1 Y L r))
    case first =>
      go_quiet ((first | (go_at_call 21; with_reducible exact quiet_same (b0.out _)) | (go_at_call 21; with_reducible exact quiet_same (b1.out _))))
      go_wp2_with fail
      go_meet
      exact ⟨rfl, rfl, Lib.hid (Q.out.on ((Kept.refl _).drewN _))⟩
    case rest =>
      obtain ⟨rfl, rfl, Q⟩ := hcut
      clear v0 v1 b0 b1 hwa
      have hwt := hRW.out
      obtain ⟨r0, r1, r2, r3, r4⟩ := Q.out.cells
      go_wp2_with fail
      refine (find_at hOK.out hRK.out HT.out (by omega) (by omega) A1 k c1 _ (Src.of_row Q.out.l)).mono ?_
      rintro e w3 ⟨B1, n1, d1, C1, o1, g1, rfl, F1⟩
      have Q := Lib.hid (Q.out.on F1.k)
      have F1 := Lib.hid F1
      clear r0 r1 r2 r3 r4
      have cF := Lib.hid (fun W h => find_at (a := a + ua) (now := now + un) hOK.out hRK.out HT.out (by omega) (by omega) A1 k c1 W h)
      unfold Finds at cF
      have HSub := Lib.hid (grows_sub (a := a) (a2 := a + ua) (now := now) (now2 := now + un) (wt := T) (by omega) (by omega) L)
      have hfl : Hid ((lostL a now T L).length ≤ 60 ∧ (lostL (a + ua) (now + un) T L).length ≤ 60) := Lib.hid (by
        have h1 := lost_len a now T L
        have h2 := lost_len (a + ua) (now + un) T L
        rw [hLN.out] at h1 h2
        omega)
      generalize lostL a now T L = few at *
      generalize restL a now T L = rest1 at *
      generalize atF a now T L = X at *
      generalize lostL (a + ua) (now + un) T L = many at *
      generalize restL (a + ua) (now + un) T L = rest2 at *
      generalize atF (a + ua) (now + un) T L = X2 at *
      go_upto_region 4 with (fail)
      go_cut [15, 18] (fun s15 s18 wx => ∃ (B2 : Option Addr) (n2 d2 : Nat), s15 = .slice B2 n2 d2 ∧ s18 = .int .i64 0 ∧ Hid (PRow wx B2 n2 d2 many) ∧ Hid (PRow wx B1 n1 d1 few) ∧ Hid (Kept w wx))
      case first =>
        have D := Lib.hid (Q.out.on (Kept.refl w3).drew)
        have F1 := Lib.hid (F1.out.on (Kept.refl w3).drew)
        have hS := Lib.hid (fun W (h : Pr w W p q 43 #[.int .i64 x0, .int .i64 x1, .int .i64 x2, .int .i64 x3] m0 m1 A1 k c1 Y L r) => (⟨h.hd.x.cell 2, h.hd.x.cell 3, h.cells⟩ : W.cell? ⟨p, 2, none⟩ = some (.int .i64 x2) ∧ W.cell? ⟨p, 3, none⟩ = some (.int .i64 x3) ∧ W.cell? ⟨Y, 0, none⟩ = some (.int .i64 r.l) ∧ W.cell? ⟨Y, 1, none⟩ = some (.int .i64 r.m) ∧ W.cell? ⟨Y, 2, none⟩ = some (.int .i64 r.s) ∧ W.cell? ⟨Y, 3, none⟩ = some (.int .i64 r.v) ∧ W.cell? ⟨Y, 4, none⟩ = some (.int .i64 r.f)))
        go_region_held3 (fun W => W.cell? ⟨p, 2, none⟩ = some (.int .i64 x2) ∧ W.cell? ⟨p, 3, none⟩ = some (.int .i64 x3) ∧ W.cell? ⟨Y, 0, none⟩ = some (.int .i64 r.l) ∧ W.cell? ⟨Y, 1, none⟩ = some (.int .i64 r.m) ∧ W.cell? ⟨Y, 2, none⟩ = some (.int .i64 r.s) ∧ W.cell? ⟨Y, 3, none⟩ = some (.int .i64 r.v) ∧ W.cell? ⟨Y, 4, none⟩ = some (.int .i64 r.f))
          (exact hS.out _ D.out)
          (first
            | (go_at_call 21; with_reducible refine (b2.out _).mono ?_; rintro e w' ⟨rfl, rfl⟩)
            | (go_at_call 21; with_reducible refine (b3.out _).mono ?_; rintro e w' ⟨rfl, rfl⟩)
            | (go_at_call 11; (with_reducible refine (cF.out _ (Src.of_row D.out.l)).mono ?_); rintro e w4 ⟨B2, n2, d2, C2, o2, g2, rfl, F2⟩; have D := Lib.hid (D.out.on F2.k); have F1 := Lib.hid (F1.out.on F2.k); have F2 := Lib.hid F2))
        all_goals
          go_wp2_with fail
          go_meet
          exact ⟨_, _, _, rfl, rfl, Lib.hid F2.out.l, Lib.hid F1.out.l, Lib.hid D.out.hd.k⟩
      case rest =>
        obtain ⟨B2, n2, d2, rfl, rfl, M2, M1, KK⟩ := hcut
        clear cF Q F1 b2 b3 hw2 hw3
        obtain ⟨hl1, hl2⟩ := hfl.out
        rw [M1.out.len] at hl1
        rw [M2.out.len] at hl2
        have HN := Lib.hid (⟨M1.out.len, M2.out.len⟩ : few.length = n1 ∧ many.length = n2)
        have hgp := guard_pk
        have hneq := Lib.hid neq_pk
        have HS0 : Hid ((few.drop 0).Sublist (many.drop 0)) := Lib.hid (by simpa using HSub.out)
        go_wp2_with fail
        go_loopw [19, 20] (fun s19 s20 wr => ∃ i κ : Nat, i ≤ n1 ∧ s20 = .int .i64 i ∧ s19 = .int .i64 κ ∧ κ ≤ n2 ∧ Hid ((few.drop i).Sublist (many.drop κ)) ∧ Hid (PRow wr B2 n2 d2 many) ∧ Hid (PRow wr B1 n1 d1 few) ∧ Hid (Kept w wr)) (fun _ s20 _ => n1 - (intOf s20).toNat)
        case atStart => exact ⟨0, 0, Nat.zero_le _, rfl, rfl, Nat.zero_le _, HS0, M2, M1, KK⟩
        case round =>
          obtain ⟨i, κ0, hi, rfl, rfl, hκ0, hs0, M2, M1, KK⟩ := hrel
          by_cases hlt : i < n1
          · have hi0 : (0 : Int) ≤ (i : Int) := by omega
            have hi1 : (i : Int) < (n1 : Int) := by omega
            have hd1 : decide ((i : Int) < (n1 : Int)) = true := decide_eq_true hi1
            have hd2 : decide (i < n1) = true := decide_eq_true hlt
            have hwi : IntKind.i64.wrap ((i : Int) + 1) = (i : Int) + 1 := IntWalk.i64_in _ (by omega)
            have hiL := Lib.hid (by rw [HN.out.1]; exact hlt : i < few.length)
            obtain ⟨ga, rfl, hga⟩ := M1.out.some_ (by omega)
            go_wp2_with fail
            go_loopw [19] (fun s19 wr => ∃ κ : Nat, s19 = .int .i64 κ ∧ κ ≤ n2 ∧ Hid ((few.drop i).Sublist (many.drop κ)) ∧ Hid (PRow wr B2 n2 d2 many) ∧ Hid (PRow wr (some ⟨ga, 0, none⟩) n1 d1 few) ∧ Hid (Kept w wr)) (fun s19 _ => n2 - (intOf s19).toNat)
            case atStart => exact ⟨κ0, rfl, hκ0, hs0, M2, M1, KK⟩
            case round =>
              obtain ⟨κ, rfl, hκ, hs, M2, M1, KK⟩ := hrel
              have hκn : κ < n2 := by have := sub_left hs.out hiL.out; rw [HN.out.2] at this; exact this
              obtain ⟨gb, rfl, hgb⟩ := M2.out.some_ (by omega)
              obtain ⟨a0, a1, a2, a3, a4, a5⟩ := Snt.prow_cells M1.out hlt
              obtain ⟨c0, c1_, c2, c3, c4, c5⟩ := Snt.prow_cells M2.out hκn
              have hκ1 : (0 : Int) ≤ (κ : Int) := by omega
              have hκ2 : (κ : Int) < (n2 : Int) := by omega
              have hd3 : decide ((κ : Int) < (n2 : Int)) = true := decide_eq_true hκ2
              have hd4 : decide (κ < n2) = true := decide_eq_true hκn
              have hwκ : IntKind.i64.wrap ((κ : Int) + 1) = (κ : Int) + 1 := IntWalk.i64_in _ (by omega)
              have hkl := Lib.hid (by rw [HN.out.2]; exact hκn : κ < many.length)
              obtain ⟨u, hu⟩ : ∃ u, at_ many κ = u := ⟨_, rfl⟩
              obtain ⟨v, hv⟩ : ∃ v, at_ few i = v := ⟨_, rfl⟩
              rw [hu] at c0 c1_ c2 c3 c4 c5
              rw [hv] at a0 a1 a2 a3 a4 a5
              have HUV := Lib.hid (⟨hu, hv⟩ : at_ many κ = u ∧ at_ few i = v)
              clear hu hv
              have hq2 := hneq.out u v
              obtain ⟨D, hD⟩ : ∃ D, decide (u = v) = D := ⟨_, rfl⟩
              rw [hD] at hq2
              go_upto_region 11 with (fail)
              cases D with
              | false =>
                have he := Lib.hid (sub_next hs.out hiL.out hkl.out (by rw [HUV.out.1, HUV.out.2]; exact of_decide_eq_false hD))
                clear hD
                go_quiet (fail)
                go_wp2_with fail
                go_roundw
                case rel => exact ⟨κ + 1, by go_num, by omega, he, Lib.hid (M2.out.kept ((Kept.refl _).drewN _)), Lib.hid (M1.out.kept ((Kept.refl _).drewN _)), Lib.hid (KK.out.drewN _)⟩
                case measure => simp [intOf]; omega
              | true =>
                clear hD
                have hz : ((κ : Int) == (n2 : Int)) = false := by simp only [beq_eq_false_iff_ne]; omega
                go_quiet (fail)
                go_wp2_with fail
                go_roundw
                case rel => exact ⟨i + 1, κ, by omega, by go_num, rfl, hκ, Lib.hid (sub_step hs.out), Lib.hid (M2.out.kept ((Kept.refl _).drewN _)), Lib.hid (M1.out.kept ((Kept.refl _).drewN _)), Lib.hid (KK.out.drewN _)⟩
                case measure => simp [intOf]; omega
          · obtain rfl : n1 = i := by omega
            have hz : ¬ ((n1 : Int) < (n1 : Int)) := by omega
            go_wp2_with fail
            refine (works_any _).mono ?_
            rintro e w7 ⟨rfl, k7⟩
            go_wp2_with fail
            go_ret
            exact ⟨rfl, KK.out.trans k7⟩


end Go.Proofs.Ytilfimlojpejhaa.Law
