/-
  The law LossParts: those that are lost and the others are the list; a packet is lost just if it is far enough behind one that was acknowledged, or was sent long enough ago.
-/
import Derived.Test.YtilfimlojpejhaaLosH
namespace Go.Proofs.Ytilfimlojpejhaa.Law
open Go.RowKit SntM Cd Wd LosM Los Num
open Snt (pkC pkV pkA PRow pkE)
open Rtt (rtV rtA Gives Same GBool)
open RttM (Rt chk great)
set_option linter.unusedVariables false
set_option linter.unusedSimpArgs false

set_option maxRecDepth 100000 in
set_option maxHeartbeats 8000000 in
theorem lossParts_any (A : Option Addr) (n c : Nat) (f : Nat → Nat → Int) (x0 x1 m0 m1 : Int) (w : World) (g : Grid 3 w A n c f) :
    Calls Try.prog 5 #[.slice A n c, .agg #[.int .i64 x0, .int .i64 x1], .agg #[.int .i64 m0, .int .i64 m1]] w (GBool true w) := by
  obtain ⟨W0, hW, bx, br, kw⟩ := Rtt.two w #[.int .i64 x0, .int .i64 x1] #[.int .i64 m0, .int .i64 m1] 23 23
  have D : Hid (Hd w W0 w.heap.size (w.heap.size + 1) 23 #[.int .i64 x0, .int .i64 x1] m0 m1) := Lib.hid ⟨bx, br, kw⟩
  have G := Lib.hid (g.kept kw)
  clear g bx br kw
  go_enter Try.func5, Try.ntmps5
  go_wp2_with fail
  change Calls _ _ _ ((w.alloc (.cells #[.int .i64 x0, .int .i64 x1] 23)).alloc (.cells #[.int .i64 m0, .int .i64 m1] 23)) _
  rw [← hW]
  clear hW
  refine (works_any _).mono ?_
  rintro e W ⟨rfl, hk⟩
  have D := Lib.hid (D.out.on hk)
  have G := Lib.hid (G.out.kept hk)
  clear hk
  go_upto_region 3 with (fail)
  generalize hq : w.heap.size + 1 = q at *
  generalize hp : w.heap.size = p at *
  have HP := Lib.hid hp
  clear hq hp
  have cP := Lib.hid (fun W' (k : Kept W W') => packets_any A n c f W' (G.out.kept k))
  have cM := Lib.hid (fun W' => measure_any m0 m1 W')
  have KW := Lib.hid ((Kept.refl W).drew)
  have D0 := D
  have KZ := Lib.hid (((Kept.refl W).alloc (.cells #[.int .i64 0, .int .i64 0, .int .i64 0, .int .i64 0, .int .i64 0] 25)).drew)
  have D := Lib.hid (D.out.on KW.out)
  unfold MRow at cP
  rw [pks_len] at cP
  have hk60 : min n 60 ≤ 60 := Nat.min_le_right _ _
  have hOK := Lib.hid (pks_ok f hk60)
  have hLN := Lib.hid (pks_len f (min n 60))
  have hRK := Lib.hid (mr_ok m0 m1)
  have hLT := Lib.hid (pks_t f (min n 60))
  have hRW := Lib.hid (mr_wait m0 m1)
  have hRG := Lib.hid (mr_great m0 m1)
  generalize pks f (min n 60) = L at *
  obtain ⟨r, hr⟩ : ∃ r, mr m0 m1 = r := ⟨_, rfl⟩
  rw [hr] at cM hRK hRW hRG
  obtain ⟨T, hT⟩ : ∃ T, wait r = T := ⟨_, rfl⟩
  rw [hT] at hRW
  have HT := Lib.hid hT
  clear hT
  have HR := Lib.hid hr
  clear hr
  generalize min n 60 = k at *
  go_cut [7, 8] (fun s7 s8 wx => ∃ (A1 : Option Addr) (c1 Y : Nat), s7 = .slice A1 k c1 ∧ s8 = .pointer (some ⟨Y, 0, none⟩) ∧ Hid (Pr w wx p q 23 #[.int .i64 x0, .int .i64 x1] m0 m1 A1 k c1 Y L r))
  case first =>
    go_region_held3 (fun W => W.cell? ⟨q, 0, none⟩ = some (.int .i64 m0) ∧ W.cell? ⟨q, 1, none⟩ = some (.int .i64 m1))
      (first
        | with_reducible exact D.out.two
        | with_reducible exact (D.out.on ((Kept.refl _).alloc _)).two
        | with_reducible exact (D0.out.on (((Kept.refl _).alloc _).drew)).two
        | (refine ⟨?_, ?_⟩ <;> repeat' (first | with_reducible exact D.out.two.1 | with_reducible exact D.out.two.2 | with_reducible refine drew_cell ?_ | with_reducible refine far_cell ?_ zne)))
      (first
        | (go_at_call 19; (with_reducible refine (cP.out _ KW.out).mono ?_); rintro e w1 ⟨A1, c1, rfl, hr, hf, hk⟩; have P := Lib.hid hr; have D := Lib.hid (D.out.on hk); clear hr hf hk)
        | (go_at_call 19; (with_reducible refine (cP.out _ KZ.out).mono ?_); rintro e w1 ⟨A1, c1, rfl, hr, hf, hk⟩; have P := Lib.hid hr; have Z := Lib.hid ((Zb.newd D0.out.k).on hk); have D := Lib.hid ((D0.out.on ((Kept.refl _).alloc _).drew).on hk); clear hr hf hk)
        | (go_at_call 20; (with_reducible refine (cM.out (World.alloc _ _)).mono ?_); rintro e w2 ⟨rfl, hk⟩; have P := Lib.hid (P.out.kept (((Kept.refl _).alloc _).trans hk)); have Z := Lib.hid ((Zb.new D.out.k).on hk); have D := Lib.hid (D.out.on (((Kept.refl _).alloc _).trans hk)); have z0 := Z.out.b.cell 0; have z1 := Z.out.b.cell 1; have z2 := Z.out.b.cell 2; have z3 := Z.out.b.cell 3; have z4 := Z.out.b.cell 4; have y0 := Z.out.b.frozen 0; have y1 := Z.out.b.frozen 1; have y2 := Z.out.b.frozen 2; have y3 := Z.out.b.frozen 3; have y4 := Z.out.b.frozen 4; have zl := Z.out.b.lt; have zne := D.out.m.ne_ Z.out.b (by decide); clear hk)
        | (go_at_call 20; (with_reducible refine (cM.out _).mono ?_); rintro e w2 ⟨rfl, hk⟩; have Z := Lib.hid (Z.out.on hk); have P := Lib.hid (P.out.kept hk); have D := Lib.hid (D.out.on hk); have z0 := Z.out.b.cell 0; have z1 := Z.out.b.cell 1; have z2 := Z.out.b.cell 2; have z3 := Z.out.b.cell 3; have z4 := Z.out.b.cell 4; have y0 := Z.out.b.frozen 0; have y1 := Z.out.b.frozen 1; have y2 := Z.out.b.frozen 2; have y3 := Z.out.b.frozen 3; have y4 := Z.out.b.frozen 4; have zl := Z.out.b.lt; have zne := D.out.m.ne_ Z.out.b (by decide); clear hk)
        | (go_at_call 20; (with_reducible refine (cM.out _).mono ?_); rintro e w2 ⟨rfl, hk⟩; have P := Lib.hid (P.out.kept hk); have D := Lib.hid (D.out.on hk); clear hk))
    all_goals
      go_wp2_with fail
      go_meet
      first
        | with_reducible exact ⟨_, _, _, rfl, rfl, Lib.hid (Pr.new r D.out P.out)⟩
        | exact ⟨_, _, _, rfl, rfl, Lib.hid (Pr.put r D.out P.out Z.out (by decide))⟩
  case rest =>
    obtain ⟨A1, c1, Y, rfl, rfl, Q⟩ := hcut
    clear D D0 cP cM KW KZ G
    have hm0 := Int.emod_nonneg x0 (show (260 : Int) ≠ 0 by omega)
    have hm1 := Int.emod_lt_of_pos x0 (show (0 : Int) < 260 by omega)
    have hn0 := Int.emod_nonneg x1 (show (2251799813685248 : Int) ≠ 0 by omega)
    have hn1 := Int.emod_lt_of_pos x1 (show (0 : Int) < 2251799813685248 by omega)
    have b0 := Lib.hid (fun W => bring_any x0 260 W (by omega) (by omega))
    have b1 := Lib.hid (fun W => bring_any x1 2251799813685248 W (by omega) (by omega))
    obtain ⟨a, ha⟩ : ∃ a, x0 % 260 - 1 = a := ⟨_, rfl⟩
    have hwa : IntKind.i64.wrap (x0 % 260 - 1) = a := by rw [IntWalk.i64_in _ (by omega)]; exact ha
    generalize x1 % 2251799813685248 = now at *
    have hab : -1 ≤ a ∧ a ≤ 258 := by omega
    clear ha hm0 hm1
    have v0 : _ = some (Value.int .i64 x0) := Q.out.hd.x.cell 0
    have v1 : _ = some (Value.int .i64 x1) := Q.out.hd.x.cell 1
    go_upto_region 4 with (fail)
    go_cut [9, 10] (fun s9 s10 wx => s9 = .int .i64 a ∧ s10 = .int .i64 now ∧ Hid (Pr w wx p q 23 #[.int .i64 x0, .int .i64 x1] m0 m1 A1 k c1 Y L r))
    case first =>
      go_quiet ((first | (go_at_call 21; with_reducible exact quiet_same (b0.out _)) | (go_at_call 21; with_reducible exact quiet_same (b1.out _))))
      go_wp2_with fail
      go_meet
      exact ⟨rfl, rfl, Lib.hid (Q.out.on ((Kept.refl _).drewN _))⟩
    case rest =>
      obtain ⟨rfl, rfl, Q⟩ := hcut
      clear v0 v1 b0 b1 hwa
      have hwt := hRW.out
      obtain ⟨r0, r1, r2, r3, r4⟩ := Q.out.cells
      go_wp2_with fail
      refine (find_at hOK.out hRK.out HT.out (by omega) (by omega) A1 k c1 _ (Src.of_row Q.out.l)).mono ?_
      rintro e w3 ⟨B1, n1, d1, C1, o1, g1, rfl, F1⟩
      have Q := Lib.hid (Q.out.on F1.k)
      have F1 := Lib.hid F1
      clear r0 r1 r2 r3 r4
      have hsl := split_len a now T L
      rw [hLN.out, F1.out.l.len, F1.out.r.len] at hsl
      have hws : IntKind.i64.wrap ((n1 : Int) + (o1 : Int)) = (n1 : Int) + (o1 : Int) := IntWalk.i64_in _ (by omega)
      have hne : ((n1 : Int) + (o1 : Int) != (k : Int)) = false := by
        have : (n1 : Int) + (o1 : Int) = (k : Int) := by omega
        rw [this]; simp
      generalize atF a now T L = X
      go_wp2_with fail
      clear hws hne
      go_loopw [15, 16, 17] (fun s15 s16 s17 wr => ∃ i : Nat, i ≤ k ∧ s17 = .int .i64 i ∧ s15 = .int .i64 ((lostL a now T (L.take i)).length : Nat) ∧ s16 = .int .i64 ((restL a now T (L.take i)).length : Nat) ∧ Hid (Pr w wr p q 23 #[.int .i64 x0, .int .i64 x1] m0 m1 A1 k c1 Y L r) ∧ Hid (Kept w3 wr)) (fun _ _ s17 _ => k - (intOf s17).toNat)
      case atStart => exact ⟨0, Nat.zero_le _, rfl, rfl, rfl, Q, Lib.hid (Kept.refl w3)⟩
      case round =>
        obtain ⟨i, hi, rfl, rfl, rfl, Q, hkw⟩ := hrel
        by_cases hlt : i < k
        · have hi0 : (0 : Int) ≤ (i : Int) := by omega
          have hi1 : (i : Int) < (k : Int) := by omega
          have hwi : IntKind.i64.wrap ((i : Int) + 1) = (i : Int) + 1 := IntWalk.i64_in _ (by omega)
          have hiL : i < L.length := by rw [hLN.out]; exact hlt
          obtain ⟨ga, rfl, hga⟩ := Q.out.l.some_ (by omega)
          have HC := Lib.hid (fun W (h : PRow W (some ⟨ga, 0, none⟩) k c1 L) => Snt.prow_cells h hlt)
          have HTK := Lib.hid (take_succ hiL)
          have hLA := Lib.hid (fun h => lost_at (a := a) (now := now) (wt := T) hiL h)
          have hRA := Lib.hid (fun h => rest_at (a := a) (now := now) (wt := T) hiL h)
          have hpt := hLT.out _ (at_mem hiL)
          have hpn := (hOK.out.val _ (at_mem hiL)).1
          have hpn2 : (at_ L i).n ≤ 9007199254740991 := (hOK.out.val _ (at_mem hiL)).2.1
          have hlen1 := lost_len a now T (L.take i)
          have hlen2 := rest_len a now T (L.take i)
          rw [List.length_take] at hlen1 hlen2
          have hk60' := hk60
          have HLL := Lib.hid (⟨by omega, by omega⟩ : (lostL a now T (L.take i)).length ≤ 60 ∧ (restL a now T (L.take i)).length ≤ 60)
          clear hlen1 hlen2
          obtain ⟨x, hx⟩ : ∃ x, at_ L i = x := ⟨_, rfl⟩
          rw [hx] at HC HTK hLA hRA hpt hpn hpn2
          clear hx hiL
          obtain ⟨G, hG⟩ : ∃ G, max r.s r.l = G := ⟨_, rfl⟩
          have hG2 : (if r.s < r.l then r.l else r.s) = G := by rw [← hG]; omega
          have hGr : great r = G := by rw [← hG2]; unfold great; rw [if_pos hRK.out]
          have hGb := hRG.out
          rw [hGr] at hGb
          have hlong := long_is (G := G) (T := T) (t := x.t) (now := now) (by rw [← HT.out, wait_ok hRK.out, hGr]) (by omega)
          clear hGr
          have k1 : IntKind.i64.wrap (now - x.t) = now - x.t := IntWalk.i64_in _ (by omega)
          have k2 : IntKind.i64.wrap (8 * (now - x.t)) = 8 * (now - x.t) := IntWalk.i64_in _ (by omega)
          have k3 : IntKind.i64.wrap (9 * G) = 9 * G := IntWalk.i64_in _ (by omega)
          have k4 : IntKind.i64.wrap (9 * G - 7) = 9 * G - 7 := IntWalk.i64_in _ (by omega)
          have k5 : IntKind.i64.wrap (a - x.n) = a - x.n := IntWalk.i64_in _ (by omega)
          obtain ⟨V, hV⟩ : ∃ V, decide (x.t + T ≤ now) = V := ⟨_, rfl⟩
          have HV := Lib.hid hV
          clear hV
          have HLG := Lib.hid hlong
          clear hlong
          obtain ⟨a0, a1, a2, a3, a4, a5⟩ := HC.out _ Q.out.l
          have e0 := Q.out.r.cell 0
          have e2 := Q.out.r.cell 2
          have HG := Lib.hid (⟨hG, hG2⟩ : _ ∧ _)
          clear hG hG2
          go_upto_region 12 with (fail)
          go_cut [18] (fun s18 wx => s18 = .bool V ∧ Hid (Pr w wx p q 23 #[.int .i64 x0, .int .i64 x1] m0 m1 (some ⟨ga, 0, none⟩) k c1 Y L r) ∧ Hid (Kept w3 wx))
          case first =>
            obtain ⟨hG, hG2⟩ := HG.out
            by_cases h1 : 9 * G - 7 ≤ 8 * (now - x.t)
            · have f1 : decide (9 * G - 7 ≤ 8 * (now - x.t)) = true := decide_eq_true h1
              by_cases h2 : 1000000 ≤ now - x.t
              · have f2 : decide (1000000 ≤ now - x.t) = true := decide_eq_true h2
                obtain rfl : V = true := by rw [← HV.out]; exact decide_eq_true (HLG.out.1 ⟨h1, h2⟩)
                clear h1 h2
                go_quiet (fail)
                go_wp2_with fail
                go_meet
                exact ⟨rfl, Lib.hid (Q.out.on ((Kept.refl _).drewN _)), Lib.hid (hkw.out.drewN _)⟩
              · have f2 : decide (1000000 ≤ now - x.t) = false := decide_eq_false h2
                obtain rfl : V = false := by rw [← HV.out]; exact decide_eq_false (fun h => h2 (HLG.out.2 h).2)
                clear h1 h2
                go_quiet (fail)
                go_wp2_with fail
                go_meet
                exact ⟨rfl, Lib.hid (Q.out.on ((Kept.refl _).drewN _)), Lib.hid (hkw.out.drewN _)⟩
            · have f1 : decide (9 * G - 7 ≤ 8 * (now - x.t)) = false := decide_eq_false h1
              obtain rfl : V = false := by rw [← HV.out]; exact decide_eq_false (fun h => h1 (HLG.out.2 h).1)
              clear h1
              go_quiet (fail)
              go_wp2_with fail
              go_meet
              exact ⟨rfl, Lib.hid (Q.out.on ((Kept.refl _).drewN _)), Lib.hid (hkw.out.drewN _)⟩
          case rest =>
            obtain ⟨rfl, Q, hkw⟩ := hcut
            clear a0 a1 a2 a3 a4 a5 e0 e2 k1 k2 k3 k4
            obtain ⟨S, hS⟩ : ∃ S, lostB a now T x = S := ⟨_, rfl⟩
            obtain ⟨a0, a1, a2, a3, a4, a5⟩ := HC.out _ Q.out.l
            go_upto_region 13 with (fail)
            go_cut [19] (fun s19 wx => s19 = .bool S ∧ Hid (Pr w wx p q 23 #[.int .i64 x0, .int .i64 x1] m0 m1 (some ⟨ga, 0, none⟩) k c1 Y L r) ∧ Hid (Kept w3 wx))
            case first =>
              by_cases hfar : a < x.n
              · obtain rfl : S = false := by rw [← hS]; exact lost_far hfar
                have g1 : decide (x.n ≤ a) = false := decide_eq_false (by omega)
                clear hS hfar
                go_wp2_with fail
                go_meet
                exact ⟨rfl, Q, hkw⟩
              · have g1 : decide (x.n ≤ a) = true := decide_eq_true (by omega)
                by_cases h3 : 3 ≤ a - x.n
                · obtain rfl : S = true := by rw [← hS]; exact lost_three hfar (by omega)
                  have g2 : decide (3 ≤ a - x.n) = true := decide_eq_true h3
                  clear hS hfar h3
                  go_wp2_with fail
                  go_meet
                  exact ⟨rfl, Q, hkw⟩
                · have g2 : decide (3 ≤ a - x.n) = false := decide_eq_false h3
                  cases V with
                  | true =>
                    obtain rfl : S = true := by rw [← hS]; exact lost_late hfar (of_decide_eq_true HV.out)
                    clear hS hfar h3
                    go_wp2_with fail
                    go_meet
                    exact ⟨rfl, Q, hkw⟩
                  | false =>
                    obtain rfl : S = false := by rw [← hS]; exact lost_no (by omega) (of_decide_eq_false HV.out)
                    clear hS hfar h3
                    go_wp2_with fail
                    go_meet
                    exact ⟨rfl, Q, hkw⟩
            case rest =>
              obtain ⟨rfl, Q, hkw⟩ := hcut
              clear a0 a1 a2 a3 a4 a5 k5 HV
              have hgp := guard_pk
              have heq : ∀ w, (binOp .eql 33 (.agg #[.int .i64 x.n, .int .i64 x.t, .int .i64 x.s, .bool x.e, .bool x.f, .bool x.c]) (.agg #[.int .i64 x.n, .int .i64 x.t, .int .i64 x.s, .bool x.e, .bool x.f, .bool x.c])).run Try.prog w = .ok (.bool true) w := fun w => by
                have h := eql_pk x x w
                rwa [decide_eq_true rfl] at h
              obtain ⟨a0, a1, a2, a3, a4, a5⟩ := HC.out _ Q.out.l
              cases S with
              | true =>
                have e1 := Lib.hid (lostL_yes hS (L.take i))
                have e2 := Lib.hid (restL_yes hS (L.take i))
                obtain ⟨j1, j2⟩ := hLA.out hS
                rw [F1.out.l.len] at j1
                have FL := F1.out.l.kept hkw.out
                obtain ⟨g2, rfl, hg2⟩ := FL.some_ (by omega)
                obtain ⟨c0, c1_, c2, c3, c4, c5⟩ := Snt.prow_cells FL j1
                rw [j2] at c0 c1_ c2 c3 c4 c5
                have hla := HLL.out.1
                clear FL j2 hS
                generalize hla0 : (lostL a now T (L.take i)).length = la at *
                have HLA0 := Lib.hid hla0
                clear hla0
                have j0 : (0 : Int) ≤ (la : Int) := by omega
                have j3 : (la : Int) < (n1 : Int) := by omega
                have j4 : decide ((la : Int) < (n1 : Int)) = true := decide_eq_true j3
                have j5 : decide (la < n1) = true := decide_eq_true j1
                have j6 : IntKind.i64.wrap ((la : Int) + 1) = (la : Int) + 1 := IntWalk.i64_in _ (by omega)
                go_upto_region 15 with (fail)
                go_quiet (fail)
                go_wp2_with fail
                go_roundw
                case rel =>
                  refine ⟨i + 1, by omega, by go_num, ?_, ?_, Lib.hid (Q.out.on ((Kept.refl _).drewN _)), Lib.hid (hkw.out.drewN _)⟩
                  · rw [HTK.out, e1.out, List.length_append, HLA0.out]; go_num
                  · rw [HTK.out, e2.out]
                case measure => simp [intOf]; omega
              | false =>
                have e1 := Lib.hid (lostL_no hS (L.take i))
                have e2 := Lib.hid (restL_no hS (L.take i))
                obtain ⟨j1, j2⟩ := hRA.out hS
                rw [F1.out.r.len] at j1
                have FL := F1.out.r.kept hkw.out
                obtain ⟨g2, rfl, hg2⟩ := FL.some_ (by omega)
                obtain ⟨c0, c1_, c2, c3, c4, c5⟩ := Snt.prow_cells FL j1
                rw [j2] at c0 c1_ c2 c3 c4 c5
                have hla := HLL.out.2
                clear FL j2 hS
                generalize hla0 : (restL a now T (L.take i)).length = la at *
                have HLA0 := Lib.hid hla0
                clear hla0
                have j0 : (0 : Int) ≤ (la : Int) := by omega
                have j3 : (la : Int) < (o1 : Int) := by omega
                have j4 : decide ((la : Int) < (o1 : Int)) = true := decide_eq_true j3
                have j5 : decide (la < o1) = true := decide_eq_true j1
                have j6 : IntKind.i64.wrap ((la : Int) + 1) = (la : Int) + 1 := IntWalk.i64_in _ (by omega)
                go_upto_region 15 with (fail)
                go_quiet (fail)
                go_upto_region 17 with (fail)
                go_quiet (fail)
                go_wp2_with fail
                go_roundw
                case rel =>
                  refine ⟨i + 1, by omega, by go_num, ?_, ?_, Lib.hid (Q.out.on ((Kept.refl _).drewN _)), Lib.hid (hkw.out.drewN _)⟩
                  · rw [HTK.out, e1.out]
                  · rw [HTK.out, e2.out, List.length_append, HLA0.out]; go_num
                case measure => simp [intOf]; omega
        · obtain rfl : k = i := by omega
          have e : L.take k = L := List.take_of_length_le (by rw [hLN.out]; omega)
          rw [e, F1.out.l.len, F1.out.r.len]
          clear e
          go_wp2_with fail
          go_ret
          exact ⟨rfl, Q.out.hd.k⟩


end Go.Proofs.Ytilfimlojpejhaa.Law
