/-
  The walk of the law SpaceDiscards of layer 17.
-/
import Derived.Test.YtilkgjpgoogiiaaGreatLSpaBehinda
set_option maxRecDepth 100000
set_option maxHeartbeats 16000000
set_option linter.unusedVariables false
set_option linter.unusedSimpArgs false
namespace Go.Proofs.YtilkgjpgoogiiaaGreat.Spa
open Go.RowKit Wd Bxs Obs Ths SpaM
open SntM (Pk putErr putL putTop dropL getP getB fly eli)
open Snt (pkC pkV pkA)
open SpnM (R addErr addTo cutErr cutTo has add)
open FrmM (Ack check)
open RttM (Rt)
open Rtt (rtV rtA)
theorem spaceDiscards_any {spaO : Nat → Sp → Ob} (H : SpaS spaO) (room : Int) (A0 : Option Addr) (n cp : Nat) (f : Nat → Nat → Int) (A1 : Option Addr) (n2 cp2 : Nat) (f2 : Nat → Nat → Int) (w : World) (h : Num.Grid 5 w A0 n cp f) (h2 : Num.Grid 5 w A1 n2 cp2 f2) : Calls Tryz.prog 8 #[.int .i64 room, .slice A0 n cp, .slice A1 n2 cp2] w fun e w' => e = .returned (.bool true) ∧ Kept w w' := by
  have GK := Lib.hid h2
  clear h2
  have GH := Lib.hid h
  clear h
  have kr := Lib.hid (fun W => bring_any room 40 W (by decide) (by decide))
  have a0 := Int.emod_nonneg room (show (40 : Int) ≠ 0 by decide)
  have b0 := Int.emod_lt_of_pos room (show (0 : Int) < 40 by decide)
  generalize room % 40 = M0 at *
  obtain ⟨u, hu⟩ : ∃ u : Nat, 1 + M0 = (u : Int) := ⟨(1 + M0).toNat, by omega⟩
  have wu : IntKind.i64.wrap (1 + M0) = (u : Int) := by rw [hu]; exact IntWalk.i64_in _ (by omega)
  have hu1 : 1 ≤ u := by omega
  have hu2 : u ≤ 256 := by omega
  clear hu a0 b0
  have D : Hid (Sx w [] w) := Lib.hid (Sx.nil w)
  have k0 := Lib.hid (fun V (hV : Sx w [] V) => H.new hV u hu1 hu2)
  go_enter Tryz.func8, Tryz.ntmps8
  go_wp2_with fail
  refine (kr.out _).mono ?_
  rintro e w' ⟨rfl, rfl⟩
  clear kr
  go_wp2_with fail
  refine (k0.out _ D.out).mono ?_
  rintro e v1 ⟨s, rfl, hb⟩
  have D : Hid (Sx w [spaO s (SpaM.new u)] v1) := Lib.hid hb
  clear hb k0 wu
  go_wp2_with fail
  have D := Lib.hid (run_new (s := s) D.out)
  generalize v1.alloc (.cells #[ptr s, .slice none 0 0, .slice none 0 0, .slice none 0 0, .int .i64 0, .int .i64 0] 57) = v2 at *
  generalize v1.heap.size = r at *
  go_loopw [10] (fun s10 wr => ∃ (i : Nat) (X : Sp) (S A B : List Int) (t : Int), i ≤ 50 ∧ s10 = .int .i64 i ∧ Hid (Rn X S A B [] t i) ∧ Hid (Sx w [runO r s S A B t, spaO s X] wr)) (fun s10 _ => 50 - (intOf s10).toNat)
  case atStart => exact ⟨0, SpaM.new u, [], [], [], 0, by omega, rfl, Lib.hid (Rn.new ⟨hu1, hu2⟩), D⟩
  case round =>
    obtain ⟨i, X, S, A, B, t, hi, rfl, HR, HD⟩ := hrel
    clear D hu1 hu2
    have D := HD
    clear HD
    by_cases hlt : i < n
    · have hi0 : (0 : Int) ≤ (i : Int) := by omega
      have hi1 : (i : Int) < (n : Int) := by omega
      by_cases h60 : i < 50
      · have hi2 : (i : Int) < 50 := by omega
        have hwi : IntKind.i64.wrap ((i : Int) + 1) = (i : Int) + 1 := IntWalk.i64_in _ (by omega)
        obtain ⟨g, o, rfl, hb, hc⟩ := GH.out.lies (by omega)
        have y0 := D.out.K.cell (hc i hlt 0 (by decide))
        have y1 := D.out.K.cell (hc i hlt 1 (by decide))
        have y2 := D.out.K.cell (hc i hlt 2 (by decide))
        have y3 := D.out.K.cell (hc i hlt 3 (by decide))
        have y4 := D.out.K.cell (hc i hlt 4 (by decide))
        clear hc
        simp only [Nat.add_zero] at y0
        obtain ⟨t2, ht2⟩ : ∃ t2, t + f i 1 % 1073741824 = t2 := ⟨_, rfl⟩
        have ks := Lib.hid (step_any H HR.out (by omega) (f i 0) (f i 1) (f i 2) (f i 3) (f i 4) ht2 rfl D.out.swap)
        clear ht2
        go_wp2_with fail
        refine ks.out.mono ?_
        rintro e v9 ⟨rfl, X2, S2, A2, B2, hR, _, _, hb⟩
        have D := Lib.hid hb.swap
        have HR2 := Lib.hid hR
        clear hb hR ks
        go_wp2_with fail
        go_roundw
        case rel => exact ⟨i + 1, X2, S2, A2, B2, t2, by omega, by go_num, HR2, D⟩
        case measure => simp [intOf]; omega
      · have hi2 : ¬ (i : Int) < 50 := by omega
        obtain ⟨As, cs, Aa, ca, Ab, cb, hb⟩ := run_open D.out
        have D : Hid (Sx w [box r 57 #[ptr s, .slice As S.length cs, .slice Aa A.length ca, .slice Ab B.length cb, .int .i64 0, .int .i64 t], inO As S.length cs S, inO Aa A.length ca A, inO Ab B.length cb B, spaO s X] wr) := Lib.hid hb
        clear hb
        obtain ⟨lx, hlx⟩ : ∃ lx, X.last = lx := ⟨_, rfl⟩
        obtain ⟨gx, hgx⟩ : ∃ gx, X.gr = gx := ⟨_, rfl⟩
        have k1 : Hid (∀ U, Sx w [box r 57 #[ptr s, .slice As S.length cs, .slice Aa A.length ca, .slice Ab B.length cb, .int .i64 0, .int .i64 t], inO As S.length cs S, inO Aa A.length ca A, inO Ab B.length cb B, spaO s X] U → Calls Tryz.prog 35 #[ptr s] U (Gets (.int .i64 lx) w [box r 57 #[ptr s, .slice As S.length cs, .slice Aa A.length ca, .slice Ab B.length cb, .int .i64 0, .int .i64 t], inO As S.length cs S, inO Aa A.length ca A, inO Ab B.length cb B, spaO s X])) := Lib.hid (fun U hU => by rw [← hlx]; exact (H.last s X HR.out.ok).at_ hU 4 rfl)
        have k2 : Hid (∀ U, Sx w [box r 57 #[ptr s, .slice As S.length cs, .slice Aa A.length ca, .slice Ab B.length cb, .int .i64 0, .int .i64 t], inO As S.length cs S, inO Aa A.length ca A, inO Ab B.length cb B, spaO s X] U → Calls Tryz.prog 32 #[ptr s] U (Gets (.int .i64 gx) w [box r 57 #[ptr s, .slice As S.length cs, .slice Aa A.length ca, .slice Ab B.length cb, .int .i64 0, .int .i64 t], inO As S.length cs S, inO Aa A.length ca A, inO Ab B.length cb B, spaO s X])) := Lib.hid (fun U hU => by rw [← hgx]; exact (H.great s X HR.out.ok).at_ hU 4 rfl)
        have S0 : Hid (∀ U, Sx w [box r 57 #[ptr s, .slice As S.length cs, .slice Aa A.length ca, .slice Ab B.length cb, .int .i64 0, .int .i64 t], inO As S.length cs S, inO Aa A.length ca A, inO Ab B.length cb B, spaO s X] U → U.cell? ⟨r, 0, none⟩ = some (ptr s)) := Lib.hid (fun U h => (h.box_ 0 rfl).cell 0)
        obtain ⟨N, hN⟩ : ∃ N, X.l.map Pk.n = N := ⟨_, rfl⟩
        have HD1 := HR.out.disc_
        have e1 : fly (disc X).l = 0 := rfl
        have e2 : eli (disc X).l = 0 := rfl
        have e3 : (disc X).l = [] := rfl
        have e4 : (disc X).lo = -1 := rfl
        have e5 : (disc X).ti = -1 := rfl
        have e6 : (disc X).last = lx := hlx
        have e7 : (disc X).gr = gx := hgx
        have kd := Lib.hid (H.disc s X HR.out.ok)
        rw [hN] at HD1
        have HN := Lib.hid hN
        have hXl : X.l.length ≤ 1000 := by have h1 := HR.out.ok.log.len; have h2 := HR.out.ok.log.room1.2; omega
        have kall := Lib.hid (fun (U : World) (hU : Sx w [box r 57 #[ptr s, .slice As S.length cs, .slice Aa A.length ca, .slice Ab B.length cb, .int .i64 0, .int .i64 t], inO As S.length cs S, inO Aa A.length ca A, inO Ab B.length cb B, spaO s X] U) => H.all HR.out.ok hU 4 rfl)
        clear hN hlx hgx HR
        generalize disc X = X1 at *
        have HD1 := Lib.hid HD1
        have E3 := Lib.hid e3
        have E1 := Lib.hid e1
        have E2 := Lib.hid e2
        have E4 := Lib.hid e4
        have E5 := Lib.hid e5
        have E6 := Lib.hid e6
        have E7 := Lib.hid e7
        clear e1 e2 e3 e4 e5 e6 e7
        have Br := D.out.box_ 0 rfl
        have cr0 := Br.cell 0
        have cr1 := Br.cell 1
        have cr2 := Br.cell 2
        have cr3 := Br.cell 3
        have cr4 := Br.cell 4
        have cr5 := Br.cell 5
        have tr := Br.lt
        clear Br
        go_upto_region 10 with (fail)
        clear cr0 cr1 cr2 cr3 cr4 cr5 tr
        have D : Hid (Sx w [box r 57 #[ptr s, .slice As S.length cs, .slice Aa A.length ca, .slice Ab B.length cb, .int .i64 0, .int .i64 t], inO As S.length cs S, inO Aa A.length ca A, inO Ab B.length cb B, spaO s X] wr.drew) := Lib.hid (D.out.on (Kept.refl _).drew)
        go_region_held3 (fun U => U.cell? ⟨r, 0, none⟩ = some (ptr s))
          (first | with_reducible exact S0.out _ D.out)
          (first
            | (go_at_call 35; (with_reducible refine (k1.out _ D.out).mono ?_); rintro e w' ⟨rfl, hb⟩; have D := Lib.hid hb; clear hb)
            | (go_at_call 32; (with_reducible refine (k2.out _ D.out).mono ?_); rintro e w' ⟨rfl, hb⟩; have D := Lib.hid hb; clear hb))
        have Br := D.out.box_ 0 rfl
        have cr0 := Br.cell 0
        have cr1 := Br.cell 1
        have cr2 := Br.cell 2
        have cr3 := Br.cell 3
        have cr4 := Br.cell 4
        have cr5 := Br.cell 5
        have tr := Br.lt
        clear Br
        go_wp2_with fail
        clear cr0 cr1 cr2 cr3 cr4 cr5 tr
        refine (kall.out _ D.out).mono ?_
        rintro e v3 ⟨AL, cL, rfl, hb⟩
        have D := Lib.hid hb
        clear hb kall k1 k2 S0
        go_wp2_with fail
        refine (numbers_sx HN.out D.out hXl).mono ?_
        rintro e v4 ⟨NA, NC, rfl, hb⟩
        have D : Hid (Sx w [inO NA N.length NC N, box r 57 #[ptr s, .slice As S.length cs, .slice Aa A.length ca, .slice Ab B.length cb, .int .i64 0, .int .i64 t], inO As S.length cs S, inO Aa A.length ca A, inO Ab B.length cb B, spaO s X] v4) := Lib.hid (hb.sel 7 [0, 2, 3, 4, 5, 6] [1] (by decide))
        clear hb
        have Br := D.out.box_ 1 rfl
        have cr0 := Br.cell 0
        have cr1 := Br.cell 1
        have cr2 := Br.cell 2
        have cr3 := Br.cell 3
        have cr4 := Br.cell 4
        have cr5 := Br.cell 5
        have tr := Br.lt
        clear Br
        go_wp2_with fail
        clear cr0 cr1 cr2 cr3 cr4 cr5 tr
        refine (kd.out.at_ D.out 5 rfl).mono ?_
        rintro e v5 ⟨rfl, hb⟩
        have D : Hid (Sx w [inO NA N.length NC N, box r 57 #[ptr s, .slice As S.length cs, .slice Aa A.length ca, .slice Ab B.length cb, .int .i64 0, .int .i64 t], inO As S.length cs S, inO Aa A.length ca A, inO Ab B.length cb B, spaO s X1] v5) := Lib.hid hb
        clear hb kd
        have Br := D.out.box_ 1 rfl
        have cr0 := Br.cell 0
        have cr1 := Br.cell 1
        have cr2 := Br.cell 2
        have cr3 := Br.cell 3
        have cr4 := Br.cell 4
        have cr5 := Br.cell 5
        have tr := Br.lt
        clear Br
        go_wp2_with fail
        clear cr0 cr1 cr2 cr3 cr4 cr5 tr
        have kt := (H.flight s X1 HD1.out.ok).at_ D.out 5 rfl
        rw [E1.out] at kt
        refine kt.mono ?_
        clear kt
        rintro e v11 ⟨rfl, hb⟩
        have D : Hid (Sx w [inO NA N.length NC N, box r 57 #[ptr s, .slice As S.length cs, .slice Aa A.length ca, .slice Ab B.length cb, .int .i64 0, .int .i64 t], inO As S.length cs S, inO Aa A.length ca A, inO Ab B.length cb B, spaO s X1] v11) := Lib.hid hb
        clear hb
        have Br := D.out.box_ 1 rfl
        have cr0 := Br.cell 0
        have cr1 := Br.cell 1
        have cr2 := Br.cell 2
        have cr3 := Br.cell 3
        have cr4 := Br.cell 4
        have cr5 := Br.cell 5
        have tr := Br.lt
        clear Br
        go_wp2_with fail
        clear cr0 cr1 cr2 cr3 cr4 cr5 tr
        have kt := (H.eliciting s X1 HD1.out.ok).at_ D.out 5 rfl
        rw [E2.out] at kt
        refine kt.mono ?_
        clear kt
        rintro e v12 ⟨rfl, hb⟩
        have D : Hid (Sx w [inO NA N.length NC N, box r 57 #[ptr s, .slice As S.length cs, .slice Aa A.length ca, .slice Ab B.length cb, .int .i64 0, .int .i64 t], inO As S.length cs S, inO Aa A.length ca A, inO Ab B.length cb B, spaO s X1] v12) := Lib.hid hb
        clear hb
        have Br := D.out.box_ 1 rfl
        have cr0 := Br.cell 0
        have cr1 := Br.cell 1
        have cr2 := Br.cell 2
        have cr3 := Br.cell 3
        have cr4 := Br.cell 4
        have cr5 := Br.cell 5
        have tr := Br.lt
        clear Br
        go_wp2_with fail
        clear cr0 cr1 cr2 cr3 cr4 cr5 tr
        have kt := H.all HD1.out.ok D.out 5 rfl
        rw [E3.out] at kt
        refine kt.mono ?_
        clear kt
        rintro e v6 ⟨A9, c9, rfl, hb⟩
        have D : Hid (Sx w [inO NA N.length NC N, box r 57 #[ptr s, .slice As S.length cs, .slice Aa A.length ca, .slice Ab B.length cb, .int .i64 0, .int .i64 t], inO As S.length cs S, inO Aa A.length ca A, inO Ab B.length cb B, spaO s X1] v6) := Lib.hid hb.tail
        clear hb
        have Br := D.out.box_ 1 rfl
        have cr0 := Br.cell 0
        have cr1 := Br.cell 1
        have cr2 := Br.cell 2
        have cr3 := Br.cell 3
        have cr4 := Br.cell 4
        have cr5 := Br.cell 5
        have tr := Br.lt
        clear Br
        go_wp2_with fail
        clear cr0 cr1 cr2 cr3 cr4 cr5 tr
        have kt := (H.loss s X1 HD1.out.ok).at_ D.out 5 rfl
        rw [E4.out] at kt
        refine kt.mono ?_
        clear kt
        rintro e v13 ⟨rfl, hb⟩
        have D : Hid (Sx w [inO NA N.length NC N, box r 57 #[ptr s, .slice As S.length cs, .slice Aa A.length ca, .slice Ab B.length cb, .int .i64 0, .int .i64 t], inO As S.length cs S, inO Aa A.length ca A, inO Ab B.length cb B, spaO s X1] v13) := Lib.hid hb
        clear hb
        have Br := D.out.box_ 1 rfl
        have cr0 := Br.cell 0
        have cr1 := Br.cell 1
        have cr2 := Br.cell 2
        have cr3 := Br.cell 3
        have cr4 := Br.cell 4
        have cr5 := Br.cell 5
        have tr := Br.lt
        clear Br
        go_wp2_with fail
        clear cr0 cr1 cr2 cr3 cr4 cr5 tr
        have kt := (H.time s X1 HD1.out.ok).at_ D.out 5 rfl
        rw [E5.out] at kt
        refine kt.mono ?_
        clear kt
        rintro e v14 ⟨rfl, hb⟩
        have D : Hid (Sx w [inO NA N.length NC N, box r 57 #[ptr s, .slice As S.length cs, .slice Aa A.length ca, .slice Ab B.length cb, .int .i64 0, .int .i64 t], inO As S.length cs S, inO Aa A.length ca A, inO Ab B.length cb B, spaO s X1] v14) := Lib.hid hb
        clear hb
        have Br := D.out.box_ 1 rfl
        have cr0 := Br.cell 0
        have cr1 := Br.cell 1
        have cr2 := Br.cell 2
        have cr3 := Br.cell 3
        have cr4 := Br.cell 4
        have cr5 := Br.cell 5
        have tr := Br.lt
        clear Br
        go_wp2_with fail
        clear cr0 cr1 cr2 cr3 cr4 cr5 tr
        have kt := (H.last s X1 HD1.out.ok).at_ D.out 5 rfl
        rw [E6.out] at kt
        refine kt.mono ?_
        clear kt
        rintro e v15 ⟨rfl, hb⟩
        have D : Hid (Sx w [inO NA N.length NC N, box r 57 #[ptr s, .slice As S.length cs, .slice Aa A.length ca, .slice Ab B.length cb, .int .i64 0, .int .i64 t], inO As S.length cs S, inO Aa A.length ca A, inO Ab B.length cb B, spaO s X1] v15) := Lib.hid hb
        clear hb
        have Br := D.out.box_ 1 rfl
        have cr0 := Br.cell 0
        have cr1 := Br.cell 1
        have cr2 := Br.cell 2
        have cr3 := Br.cell 3
        have cr4 := Br.cell 4
        have cr5 := Br.cell 5
        have tr := Br.lt
        clear Br
        go_wp2_with fail
        clear cr0 cr1 cr2 cr3 cr4 cr5 tr
        have kt := (H.great s X1 HD1.out.ok).at_ D.out 5 rfl
        rw [E7.out] at kt
        refine kt.mono ?_
        clear kt
        rintro e v16 ⟨rfl, hb⟩
        have D : Hid (Sx w [inO NA N.length NC N, box r 57 #[ptr s, .slice As S.length cs, .slice Aa A.length ca, .slice Ab B.length cb, .int .i64 0, .int .i64 t], inO As S.length cs S, inO Aa A.length ca A, inO Ab B.length cb B, spaO s X1] v16) := Lib.hid hb
        clear hb
        have D := Lib.hid (run_shut (D.out.sel 6 [1, 2, 3, 4, 5, 0] [] (by decide)))
        clear E1 E2 E3 E4 E5 E6 E7 HN
        go_wp2_with fail
        go_loopw [14] (fun s14 wr => ∃ (k : Nat) (X2 : Sp) (S2 A2 B2 : List Int) (t2 : Int), k ≤ 20 ∧ s14 = .int .i64 k ∧ Hid (Rn X2 S2 A2 B2 N t2 (i + k)) ∧ Hid (Sx w [runO r s S2 A2 B2 t2, spaO s X2, inO NA N.length NC N] wr)) (fun s14 _ => 20 - (intOf s14).toNat)
        case atStart => exact ⟨0, X1, S, A, B, t, by omega, rfl, HD1, D⟩
        case round =>
          obtain ⟨k, X2, S2, A2, B2, t2, hk, rfl, HR, HD⟩ := hrel
          clear D HD1
          have D := HD
          clear HD
          by_cases hltk : k < n2
          · have hk0 : (0 : Int) ≤ (k : Int) := by omega
            have hk1 : (k : Int) < (n2 : Int) := by omega
            by_cases h20 : k < 20
            · have hi2 : (k : Int) < 20 := by omega
              have hwi : IntKind.i64.wrap ((k : Int) + 1) = (k : Int) + 1 := IntWalk.i64_in _ (by omega)
              obtain ⟨g, o, rfl, hb, hc⟩ := GK.out.lies (by omega)
              have y0 := D.out.K.cell (hc k hltk 0 (by decide))
              have y1 := D.out.K.cell (hc k hltk 1 (by decide))
              have y2 := D.out.K.cell (hc k hltk 2 (by decide))
              have y3 := D.out.K.cell (hc k hltk 3 (by decide))
              have y4 := D.out.K.cell (hc k hltk 4 (by decide))
              clear hc
              simp only [Nat.add_zero] at y0
              obtain ⟨t3, ht3⟩ : ∃ t3, t2 + f2 k 1 % 1073741824 = t3 := ⟨_, rfl⟩
              have ks := Lib.hid (step_any H HR.out (by omega) (f2 k 0) (f2 k 1) (f2 k 2) (f2 k 3) (f2 k 4) ht3 rfl D.out.swap)
              clear ht3
              go_wp2_with fail
              refine ks.out.mono ?_
              rintro e v9 ⟨rfl, X3, S3, A3, B3, hR, _, _, hb⟩
              have D := Lib.hid hb.swap
              have HR2 := Lib.hid hR
              clear hb hR ks
              go_wp2_with fail
              go_roundw
              case rel => exact ⟨k + 1, X3, S3, A3, B3, t3, by omega, by go_num, HR2, D⟩
              case measure => simp [intOf]; omega
            · have hi2 : ¬ (k : Int) < 20 := by omega
              have hri := rn_ri HR.out (by omega)
              have hAl : A2.length ≤ 1000 := by have h1 := hri.len; have h2 := HR.out.cnt; omega
              have hBl : B2.length ≤ 1000 := by have h1 := hri.len; have h2 := HR.out.cnt; omega
              have hNl : N.length ≤ 1000 := by have h1 := hri.len; have h2 := HR.out.cnt; omega
              clear hri
              obtain ⟨As2, cs2, Aa2, ca2, Ab2, cb2, hb⟩ := run_open D.out
              have D : Hid (Sx w [box r 57 #[ptr s, .slice As2 S2.length cs2, .slice Aa2 A2.length ca2, .slice Ab2 B2.length cb2, .int .i64 0, .int .i64 t2], inO As2 S2.length cs2 S2, inO Aa2 A2.length ca2 A2, inO Ab2 B2.length cb2 B2, spaO s X2, inO NA N.length NC N] wr) := Lib.hid hb
              clear hb
              go_wp2_with fail
              go_loopw [15] (fun s15 wx => ∃ j : Nat, j ≤ N.length ∧ s15 = .int .i64 j ∧ Hid (Sx w [box r 57 #[ptr s, .slice As2 S2.length cs2, .slice Aa2 A2.length ca2, .slice Ab2 B2.length cb2, .int .i64 0, .int .i64 t2], inO As2 S2.length cs2 S2, inO Aa2 A2.length ca2 A2, inO Ab2 B2.length cb2 B2, spaO s X2, inO NA N.length NC N] wx)) (fun s15 _ => N.length - (intOf s15).toNat)
              case atStart => exact ⟨0, Nat.zero_le _, rfl, D⟩
              case round =>
                obtain ⟨j, hj, rfl, HD⟩ := hrel
                clear D
                have D := HD
                clear HD
                by_cases hjl : j < N.length
                · have hj0 : (0 : Int) ≤ (j : Int) := by omega
                  have hj1 : (j : Int) < (N.length : Int) := by omega
                  have hwj : IntKind.i64.wrap ((j : Int) + 1) = (j : Int) + 1 := IntWalk.i64_in _ (by omega)
                  obtain ⟨g, rfl, hg⟩ := (row_at D.out 5 rfl).some_ (by omega)
                  obtain ⟨-, q2, q3⟩ := HR.out.g _ (Cd.at_mem hjl)
                  obtain ⟨x, hx⟩ : ∃ x, Cd.at_ N j = x := ⟨_, rfl⟩
                  rw [hx] at q2 q3
                  have S0 : Hid (∀ U, Sx w [box r 57 #[ptr s, .slice As2 S2.length cs2, .slice Aa2 A2.length ca2, .slice Ab2 B2.length cb2, .int .i64 0, .int .i64 t2], inO As2 S2.length cs2 S2, inO Aa2 A2.length ca2 A2, inO Ab2 B2.length cb2 B2, spaO s X2, inO (some ⟨g, 0, none⟩) N.length NC N] U → U.cell? ⟨r, 2, none⟩ = some (.slice Aa2 A2.length ca2) ∧ U.cell? ⟨r, 3, none⟩ = some (.slice Ab2 B2.length cb2) ∧ U.cell? ⟨g, j, none⟩ = some (.int .i64 x)) := Lib.hid (fun U h => ⟨(h.box_ 0 rfl).cell 2, (h.box_ 0 rfl).cell 3, by rw [← hx]; exact in_cell (row_at h 5 rfl) hjl⟩)
                  have kA : Hid (∀ U, Sx w [box r 57 #[ptr s, .slice As2 S2.length cs2, .slice Aa2 A2.length ca2, .slice Ab2 B2.length cb2, .int .i64 0, .int .i64 t2], inO As2 S2.length cs2 S2, inO Aa2 A2.length ca2 A2, inO Ab2 B2.length cb2 B2, spaO s X2, inO (some ⟨g, 0, none⟩) N.length NC N] U → Calls Tryz.prog 29 #[.slice Aa2 A2.length ca2, .int .i64 x] U (Gets (.bool false) w [box r 57 #[ptr s, .slice As2 S2.length cs2, .slice Aa2 A2.length ca2, .slice Ab2 B2.length cb2, .int .i64 0, .int .i64 t2], inO As2 S2.length cs2 S2, inO Aa2 A2.length ca2 A2, inO Ab2 B2.length cb2 B2, spaO s X2, inO (some ⟨g, 0, none⟩) N.length NC N])) := Lib.hid (fun U hU => by have := has_sx 2 hU rfl hAl x; rwa [inL_no q2] at this)
                  have kB : Hid (∀ U, Sx w [box r 57 #[ptr s, .slice As2 S2.length cs2, .slice Aa2 A2.length ca2, .slice Ab2 B2.length cb2, .int .i64 0, .int .i64 t2], inO As2 S2.length cs2 S2, inO Aa2 A2.length ca2 A2, inO Ab2 B2.length cb2 B2, spaO s X2, inO (some ⟨g, 0, none⟩) N.length NC N] U → Calls Tryz.prog 29 #[.slice Ab2 B2.length cb2, .int .i64 x] U (Gets (.bool false) w [box r 57 #[ptr s, .slice As2 S2.length cs2, .slice Aa2 A2.length ca2, .slice Ab2 B2.length cb2, .int .i64 0, .int .i64 t2], inO As2 S2.length cs2 S2, inO Aa2 A2.length ca2 A2, inO Ab2 B2.length cb2 B2, spaO s X2, inO (some ⟨g, 0, none⟩) N.length NC N])) := Lib.hid (fun U hU => by have := has_sx 3 hU rfl hBl x; rwa [inL_no q3] at this)
                  clear q2 q3 hx
                  have Br := D.out.box_ 0 rfl
                  have cr0 := Br.cell 0
                  have cr1 := Br.cell 1
                  have cr2 := Br.cell 2
                  have cr3 := Br.cell 3
                  have cr4 := Br.cell 4
                  have cr5 := Br.cell 5
                  have tr := Br.lt
                  clear Br
                  go_upto_region 23 with (fail)
                  clear cr0 cr1 cr2 cr3 cr4 cr5 tr
                  have D : Hid (Sx w [box r 57 #[ptr s, .slice As2 S2.length cs2, .slice Aa2 A2.length ca2, .slice Ab2 B2.length cb2, .int .i64 0, .int .i64 t2], inO As2 S2.length cs2 S2, inO Aa2 A2.length ca2 A2, inO Ab2 B2.length cb2 B2, spaO s X2, inO (some ⟨g, 0, none⟩) N.length NC N] _) := Lib.hid (D.out.on (Kept.refl _).drew)
                  go_region_held3 (fun U => U.cell? ⟨r, 2, none⟩ = some (.slice Aa2 A2.length ca2) ∧ U.cell? ⟨r, 3, none⟩ = some (.slice Ab2 B2.length cb2) ∧ U.cell? ⟨g, j, none⟩ = some (.int .i64 x))
                    (first | with_reducible exact S0.out _ D.out)
                    (first
                      | (go_at_call 29; (with_reducible refine (kA.out _ D.out).mono ?_); rintro e w' ⟨rfl, hb⟩; have D := Lib.hid hb; clear hb)
                      | (go_at_call 29; (with_reducible refine (kB.out _ D.out).mono ?_); rintro e w' ⟨rfl, hb⟩; have D := Lib.hid hb; clear hb))
                  go_wp2_with fail
                  go_roundw
                  case rel => exact ⟨j + 1, by omega, by go_num, D⟩
                  case measure => simp [intOf]; omega
                · have hj1 : ¬ (j : Int) < (N.length : Int) := by omega
                  go_wp2_with fail
                  refine (works_any H _).mono ?_
                  rintro e v8 ⟨rfl, hk⟩
                  have D := Lib.hid (D.out.on hk)
                  clear hk
                  go_wp2_with fail
                  go_ret
                  exact ⟨rfl, D.out.K⟩
          · have hk1 : ¬ (k : Int) < (n2 : Int) := by omega
            have hri := rn_ri HR.out (by omega)
            have hAl : A2.length ≤ 1000 := by have h1 := hri.len; have h2 := HR.out.cnt; omega
            have hBl : B2.length ≤ 1000 := by have h1 := hri.len; have h2 := HR.out.cnt; omega
            have hNl : N.length ≤ 1000 := by have h1 := hri.len; have h2 := HR.out.cnt; omega
            clear hri
            obtain ⟨As2, cs2, Aa2, ca2, Ab2, cb2, hb⟩ := run_open D.out
            have D : Hid (Sx w [box r 57 #[ptr s, .slice As2 S2.length cs2, .slice Aa2 A2.length ca2, .slice Ab2 B2.length cb2, .int .i64 0, .int .i64 t2], inO As2 S2.length cs2 S2, inO Aa2 A2.length ca2 A2, inO Ab2 B2.length cb2 B2, spaO s X2, inO NA N.length NC N] wr) := Lib.hid hb
            clear hb
            go_wp2_with fail
            go_loopw [15] (fun s15 wx => ∃ j : Nat, j ≤ N.length ∧ s15 = .int .i64 j ∧ Hid (Sx w [box r 57 #[ptr s, .slice As2 S2.length cs2, .slice Aa2 A2.length ca2, .slice Ab2 B2.length cb2, .int .i64 0, .int .i64 t2], inO As2 S2.length cs2 S2, inO Aa2 A2.length ca2 A2, inO Ab2 B2.length cb2 B2, spaO s X2, inO NA N.length NC N] wx)) (fun s15 _ => N.length - (intOf s15).toNat)
            case atStart => exact ⟨0, Nat.zero_le _, rfl, D⟩
            case round =>
              obtain ⟨j, hj, rfl, HD⟩ := hrel
              clear D
              have D := HD
              clear HD
              by_cases hjl : j < N.length
              · have hj0 : (0 : Int) ≤ (j : Int) := by omega
                have hj1 : (j : Int) < (N.length : Int) := by omega
                have hwj : IntKind.i64.wrap ((j : Int) + 1) = (j : Int) + 1 := IntWalk.i64_in _ (by omega)
                obtain ⟨g, rfl, hg⟩ := (row_at D.out 5 rfl).some_ (by omega)
                obtain ⟨-, q2, q3⟩ := HR.out.g _ (Cd.at_mem hjl)
                obtain ⟨x, hx⟩ : ∃ x, Cd.at_ N j = x := ⟨_, rfl⟩
                rw [hx] at q2 q3
                have S0 : Hid (∀ U, Sx w [box r 57 #[ptr s, .slice As2 S2.length cs2, .slice Aa2 A2.length ca2, .slice Ab2 B2.length cb2, .int .i64 0, .int .i64 t2], inO As2 S2.length cs2 S2, inO Aa2 A2.length ca2 A2, inO Ab2 B2.length cb2 B2, spaO s X2, inO (some ⟨g, 0, none⟩) N.length NC N] U → U.cell? ⟨r, 2, none⟩ = some (.slice Aa2 A2.length ca2) ∧ U.cell? ⟨r, 3, none⟩ = some (.slice Ab2 B2.length cb2) ∧ U.cell? ⟨g, j, none⟩ = some (.int .i64 x)) := Lib.hid (fun U h => ⟨(h.box_ 0 rfl).cell 2, (h.box_ 0 rfl).cell 3, by rw [← hx]; exact in_cell (row_at h 5 rfl) hjl⟩)
                have kA : Hid (∀ U, Sx w [box r 57 #[ptr s, .slice As2 S2.length cs2, .slice Aa2 A2.length ca2, .slice Ab2 B2.length cb2, .int .i64 0, .int .i64 t2], inO As2 S2.length cs2 S2, inO Aa2 A2.length ca2 A2, inO Ab2 B2.length cb2 B2, spaO s X2, inO (some ⟨g, 0, none⟩) N.length NC N] U → Calls Tryz.prog 29 #[.slice Aa2 A2.length ca2, .int .i64 x] U (Gets (.bool false) w [box r 57 #[ptr s, .slice As2 S2.length cs2, .slice Aa2 A2.length ca2, .slice Ab2 B2.length cb2, .int .i64 0, .int .i64 t2], inO As2 S2.length cs2 S2, inO Aa2 A2.length ca2 A2, inO Ab2 B2.length cb2 B2, spaO s X2, inO (some ⟨g, 0, none⟩) N.length NC N])) := Lib.hid (fun U hU => by have := has_sx 2 hU rfl hAl x; rwa [inL_no q2] at this)
                have kB : Hid (∀ U, Sx w [box r 57 #[ptr s, .slice As2 S2.length cs2, .slice Aa2 A2.length ca2, .slice Ab2 B2.length cb2, .int .i64 0, .int .i64 t2], inO As2 S2.length cs2 S2, inO Aa2 A2.length ca2 A2, inO Ab2 B2.length cb2 B2, spaO s X2, inO (some ⟨g, 0, none⟩) N.length NC N] U → Calls Tryz.prog 29 #[.slice Ab2 B2.length cb2, .int .i64 x] U (Gets (.bool false) w [box r 57 #[ptr s, .slice As2 S2.length cs2, .slice Aa2 A2.length ca2, .slice Ab2 B2.length cb2, .int .i64 0, .int .i64 t2], inO As2 S2.length cs2 S2, inO Aa2 A2.length ca2 A2, inO Ab2 B2.length cb2 B2, spaO s X2, inO (some ⟨g, 0, none⟩) N.length NC N])) := Lib.hid (fun U hU => by have := has_sx 3 hU rfl hBl x; rwa [inL_no q3] at this)
                clear q2 q3 hx
                have Br := D.out.box_ 0 rfl
                have cr0 := Br.cell 0
                have cr1 := Br.cell 1
                have cr2 := Br.cell 2
                have cr3 := Br.cell 3
                have cr4 := Br.cell 4
                have cr5 := Br.cell 5
                have tr := Br.lt
                clear Br
                go_upto_region 23 with (fail)
                clear cr0 cr1 cr2 cr3 cr4 cr5 tr
                have D : Hid (Sx w [box r 57 #[ptr s, .slice As2 S2.length cs2, .slice Aa2 A2.length ca2, .slice Ab2 B2.length cb2, .int .i64 0, .int .i64 t2], inO As2 S2.length cs2 S2, inO Aa2 A2.length ca2 A2, inO Ab2 B2.length cb2 B2, spaO s X2, inO (some ⟨g, 0, none⟩) N.length NC N] _) := Lib.hid (D.out.on (Kept.refl _).drew)
                go_region_held3 (fun U => U.cell? ⟨r, 2, none⟩ = some (.slice Aa2 A2.length ca2) ∧ U.cell? ⟨r, 3, none⟩ = some (.slice Ab2 B2.length cb2) ∧ U.cell? ⟨g, j, none⟩ = some (.int .i64 x))
                  (first | with_reducible exact S0.out _ D.out)
                  (first
                    | (go_at_call 29; (with_reducible refine (kA.out _ D.out).mono ?_); rintro e w' ⟨rfl, hb⟩; have D := Lib.hid hb; clear hb)
                    | (go_at_call 29; (with_reducible refine (kB.out _ D.out).mono ?_); rintro e w' ⟨rfl, hb⟩; have D := Lib.hid hb; clear hb))
                go_wp2_with fail
                go_roundw
                case rel => exact ⟨j + 1, by omega, by go_num, D⟩
                case measure => simp [intOf]; omega
              · have hj1 : ¬ (j : Int) < (N.length : Int) := by omega
                go_wp2_with fail
                refine (works_any H _).mono ?_
                rintro e v8 ⟨rfl, hk⟩
                have D := Lib.hid (D.out.on hk)
                clear hk
                go_wp2_with fail
                go_ret
                exact ⟨rfl, D.out.K⟩
    · have hi1 : ¬ (i : Int) < (n : Int) := by omega
      obtain ⟨As, cs, Aa, ca, Ab, cb, hb⟩ := run_open D.out
      have D : Hid (Sx w [box r 57 #[ptr s, .slice As S.length cs, .slice Aa A.length ca, .slice Ab B.length cb, .int .i64 0, .int .i64 t], inO As S.length cs S, inO Aa A.length ca A, inO Ab B.length cb B, spaO s X] wr) := Lib.hid hb
      clear hb
      obtain ⟨lx, hlx⟩ : ∃ lx, X.last = lx := ⟨_, rfl⟩
      obtain ⟨gx, hgx⟩ : ∃ gx, X.gr = gx := ⟨_, rfl⟩
      have k1 : Hid (∀ U, Sx w [box r 57 #[ptr s, .slice As S.length cs, .slice Aa A.length ca, .slice Ab B.length cb, .int .i64 0, .int .i64 t], inO As S.length cs S, inO Aa A.length ca A, inO Ab B.length cb B, spaO s X] U → Calls Tryz.prog 35 #[ptr s] U (Gets (.int .i64 lx) w [box r 57 #[ptr s, .slice As S.length cs, .slice Aa A.length ca, .slice Ab B.length cb, .int .i64 0, .int .i64 t], inO As S.length cs S, inO Aa A.length ca A, inO Ab B.length cb B, spaO s X])) := Lib.hid (fun U hU => by rw [← hlx]; exact (H.last s X HR.out.ok).at_ hU 4 rfl)
      have k2 : Hid (∀ U, Sx w [box r 57 #[ptr s, .slice As S.length cs, .slice Aa A.length ca, .slice Ab B.length cb, .int .i64 0, .int .i64 t], inO As S.length cs S, inO Aa A.length ca A, inO Ab B.length cb B, spaO s X] U → Calls Tryz.prog 32 #[ptr s] U (Gets (.int .i64 gx) w [box r 57 #[ptr s, .slice As S.length cs, .slice Aa A.length ca, .slice Ab B.length cb, .int .i64 0, .int .i64 t], inO As S.length cs S, inO Aa A.length ca A, inO Ab B.length cb B, spaO s X])) := Lib.hid (fun U hU => by rw [← hgx]; exact (H.great s X HR.out.ok).at_ hU 4 rfl)
      have S0 : Hid (∀ U, Sx w [box r 57 #[ptr s, .slice As S.length cs, .slice Aa A.length ca, .slice Ab B.length cb, .int .i64 0, .int .i64 t], inO As S.length cs S, inO Aa A.length ca A, inO Ab B.length cb B, spaO s X] U → U.cell? ⟨r, 0, none⟩ = some (ptr s)) := Lib.hid (fun U h => (h.box_ 0 rfl).cell 0)
      obtain ⟨N, hN⟩ : ∃ N, X.l.map Pk.n = N := ⟨_, rfl⟩
      have HD1 := HR.out.disc_
      have e1 : fly (disc X).l = 0 := rfl
      have e2 : eli (disc X).l = 0 := rfl
      have e3 : (disc X).l = [] := rfl
      have e4 : (disc X).lo = -1 := rfl
      have e5 : (disc X).ti = -1 := rfl
      have e6 : (disc X).last = lx := hlx
      have e7 : (disc X).gr = gx := hgx
      have kd := Lib.hid (H.disc s X HR.out.ok)
      rw [hN] at HD1
      have HN := Lib.hid hN
      have hXl : X.l.length ≤ 1000 := by have h1 := HR.out.ok.log.len; have h2 := HR.out.ok.log.room1.2; omega
      have kall := Lib.hid (fun (U : World) (hU : Sx w [box r 57 #[ptr s, .slice As S.length cs, .slice Aa A.length ca, .slice Ab B.length cb, .int .i64 0, .int .i64 t], inO As S.length cs S, inO Aa A.length ca A, inO Ab B.length cb B, spaO s X] U) => H.all HR.out.ok hU 4 rfl)
      clear hN hlx hgx HR
      generalize disc X = X1 at *
      have HD1 := Lib.hid HD1
      have E3 := Lib.hid e3
      have E1 := Lib.hid e1
      have E2 := Lib.hid e2
      have E4 := Lib.hid e4
      have E5 := Lib.hid e5
      have E6 := Lib.hid e6
      have E7 := Lib.hid e7
      clear e1 e2 e3 e4 e5 e6 e7
      have Br := D.out.box_ 0 rfl
      have cr0 := Br.cell 0
      have cr1 := Br.cell 1
      have cr2 := Br.cell 2
      have cr3 := Br.cell 3
      have cr4 := Br.cell 4
      have cr5 := Br.cell 5
      have tr := Br.lt
      clear Br
      go_upto_region 10 with (fail)
      clear cr0 cr1 cr2 cr3 cr4 cr5 tr
      have D : Hid (Sx w [box r 57 #[ptr s, .slice As S.length cs, .slice Aa A.length ca, .slice Ab B.length cb, .int .i64 0, .int .i64 t], inO As S.length cs S, inO Aa A.length ca A, inO Ab B.length cb B, spaO s X] wr.drew) := Lib.hid (D.out.on (Kept.refl _).drew)
      go_region_held3 (fun U => U.cell? ⟨r, 0, none⟩ = some (ptr s))
        (first | with_reducible exact S0.out _ D.out)
        (first
          | (go_at_call 35; (with_reducible refine (k1.out _ D.out).mono ?_); rintro e w' ⟨rfl, hb⟩; have D := Lib.hid hb; clear hb)
          | (go_at_call 32; (with_reducible refine (k2.out _ D.out).mono ?_); rintro e w' ⟨rfl, hb⟩; have D := Lib.hid hb; clear hb))
      have Br := D.out.box_ 0 rfl
      have cr0 := Br.cell 0
      have cr1 := Br.cell 1
      have cr2 := Br.cell 2
      have cr3 := Br.cell 3
      have cr4 := Br.cell 4
      have cr5 := Br.cell 5
      have tr := Br.lt
      clear Br
      go_wp2_with fail
      clear cr0 cr1 cr2 cr3 cr4 cr5 tr
      refine (kall.out _ D.out).mono ?_
      rintro e v3 ⟨AL, cL, rfl, hb⟩
      have D := Lib.hid hb
      clear hb kall k1 k2 S0
      go_wp2_with fail
      refine (numbers_sx HN.out D.out hXl).mono ?_
      rintro e v4 ⟨NA, NC, rfl, hb⟩
      have D : Hid (Sx w [inO NA N.length NC N, box r 57 #[ptr s, .slice As S.length cs, .slice Aa A.length ca, .slice Ab B.length cb, .int .i64 0, .int .i64 t], inO As S.length cs S, inO Aa A.length ca A, inO Ab B.length cb B, spaO s X] v4) := Lib.hid (hb.sel 7 [0, 2, 3, 4, 5, 6] [1] (by decide))
      clear hb
      have Br := D.out.box_ 1 rfl
      have cr0 := Br.cell 0
      have cr1 := Br.cell 1
      have cr2 := Br.cell 2
      have cr3 := Br.cell 3
      have cr4 := Br.cell 4
      have cr5 := Br.cell 5
      have tr := Br.lt
      clear Br
      go_wp2_with fail
      clear cr0 cr1 cr2 cr3 cr4 cr5 tr
      refine (kd.out.at_ D.out 5 rfl).mono ?_
      rintro e v5 ⟨rfl, hb⟩
      have D : Hid (Sx w [inO NA N.length NC N, box r 57 #[ptr s, .slice As S.length cs, .slice Aa A.length ca, .slice Ab B.length cb, .int .i64 0, .int .i64 t], inO As S.length cs S, inO Aa A.length ca A, inO Ab B.length cb B, spaO s X1] v5) := Lib.hid hb
      clear hb kd
      have Br := D.out.box_ 1 rfl
      have cr0 := Br.cell 0
      have cr1 := Br.cell 1
      have cr2 := Br.cell 2
      have cr3 := Br.cell 3
      have cr4 := Br.cell 4
      have cr5 := Br.cell 5
      have tr := Br.lt
      clear Br
      go_wp2_with fail
      clear cr0 cr1 cr2 cr3 cr4 cr5 tr
      have kt := (H.flight s X1 HD1.out.ok).at_ D.out 5 rfl
      rw [E1.out] at kt
      refine kt.mono ?_
      clear kt
      rintro e v11 ⟨rfl, hb⟩
      have D : Hid (Sx w [inO NA N.length NC N, box r 57 #[ptr s, .slice As S.length cs, .slice Aa A.length ca, .slice Ab B.length cb, .int .i64 0, .int .i64 t], inO As S.length cs S, inO Aa A.length ca A, inO Ab B.length cb B, spaO s X1] v11) := Lib.hid hb
      clear hb
      have Br := D.out.box_ 1 rfl
      have cr0 := Br.cell 0
      have cr1 := Br.cell 1
      have cr2 := Br.cell 2
      have cr3 := Br.cell 3
      have cr4 := Br.cell 4
      have cr5 := Br.cell 5
      have tr := Br.lt
      clear Br
      go_wp2_with fail
      clear cr0 cr1 cr2 cr3 cr4 cr5 tr
      have kt := (H.eliciting s X1 HD1.out.ok).at_ D.out 5 rfl
      rw [E2.out] at kt
      refine kt.mono ?_
      clear kt
      rintro e v12 ⟨rfl, hb⟩
      have D : Hid (Sx w [inO NA N.length NC N, box r 57 #[ptr s, .slice As S.length cs, .slice Aa A.length ca, .slice Ab B.length cb, .int .i64 0, .int .i64 t], inO As S.length cs S, inO Aa A.length ca A, inO Ab B.length cb B, spaO s X1] v12) := Lib.hid hb
      clear hb
      have Br := D.out.box_ 1 rfl
      have cr0 := Br.cell 0
      have cr1 := Br.cell 1
      have cr2 := Br.cell 2
      have cr3 := Br.cell 3
      have cr4 := Br.cell 4
      have cr5 := Br.cell 5
      have tr := Br.lt
      clear Br
      go_wp2_with fail
      clear cr0 cr1 cr2 cr3 cr4 cr5 tr
      have kt := H.all HD1.out.ok D.out 5 rfl
      rw [E3.out] at kt
      refine kt.mono ?_
      clear kt
      rintro e v6 ⟨A9, c9, rfl, hb⟩
      have D : Hid (Sx w [inO NA N.length NC N, box r 57 #[ptr s, .slice As S.length cs, .slice Aa A.length ca, .slice Ab B.length cb, .int .i64 0, .int .i64 t], inO As S.length cs S, inO Aa A.length ca A, inO Ab B.length cb B, spaO s X1] v6) := Lib.hid hb.tail
      clear hb
      have Br := D.out.box_ 1 rfl
      have cr0 := Br.cell 0
      have cr1 := Br.cell 1
      have cr2 := Br.cell 2
      have cr3 := Br.cell 3
      have cr4 := Br.cell 4
      have cr5 := Br.cell 5
      have tr := Br.lt
      clear Br
      go_wp2_with fail
      clear cr0 cr1 cr2 cr3 cr4 cr5 tr
      have kt := (H.loss s X1 HD1.out.ok).at_ D.out 5 rfl
      rw [E4.out] at kt
      refine kt.mono ?_
      clear kt
      rintro e v13 ⟨rfl, hb⟩
      have D : Hid (Sx w [inO NA N.length NC N, box r 57 #[ptr s, .slice As S.length cs, .slice Aa A.length ca, .slice Ab B.length cb, .int .i64 0, .int .i64 t], inO As S.length cs S, inO Aa A.length ca A, inO Ab B.length cb B, spaO s X1] v13) := Lib.hid hb
      clear hb
      have Br := D.out.box_ 1 rfl
      have cr0 := Br.cell 0
      have cr1 := Br.cell 1
      have cr2 := Br.cell 2
      have cr3 := Br.cell 3
      have cr4 := Br.cell 4
      have cr5 := Br.cell 5
      have tr := Br.lt
      clear Br
      go_wp2_with fail
      clear cr0 cr1 cr2 cr3 cr4 cr5 tr
      have kt := (H.time s X1 HD1.out.ok).at_ D.out 5 rfl
      rw [E5.out] at kt
      refine kt.mono ?_
      clear kt
      rintro e v14 ⟨rfl, hb⟩
      have D : Hid (Sx w [inO NA N.length NC N, box r 57 #[ptr s, .slice As S.length cs, .slice Aa A.length ca, .slice Ab B.length cb, .int .i64 0, .int .i64 t], inO As S.length cs S, inO Aa A.length ca A, inO Ab B.length cb B, spaO s X1] v14) := Lib.hid hb
      clear hb
      have Br := D.out.box_ 1 rfl
      have cr0 := Br.cell 0
      have cr1 := Br.cell 1
      have cr2 := Br.cell 2
      have cr3 := Br.cell 3
      have cr4 := Br.cell 4
      have cr5 := Br.cell 5
      have tr := Br.lt
      clear Br
      go_wp2_with fail
      clear cr0 cr1 cr2 cr3 cr4 cr5 tr
      have kt := (H.last s X1 HD1.out.ok).at_ D.out 5 rfl
      rw [E6.out] at kt
      refine kt.mono ?_
      clear kt
      rintro e v15 ⟨rfl, hb⟩
      have D : Hid (Sx w [inO NA N.length NC N, box r 57 #[ptr s, .slice As S.length cs, .slice Aa A.length ca, .slice Ab B.length cb, .int .i64 0, .int .i64 t], inO As S.length cs S, inO Aa A.length ca A, inO Ab B.length cb B, spaO s X1] v15) := Lib.hid hb
      clear hb
      have Br := D.out.box_ 1 rfl
      have cr0 := Br.cell 0
      have cr1 := Br.cell 1
      have cr2 := Br.cell 2
      have cr3 := Br.cell 3
      have cr4 := Br.cell 4
      have cr5 := Br.cell 5
      have tr := Br.lt
      clear Br
      go_wp2_with fail
      clear cr0 cr1 cr2 cr3 cr4 cr5 tr
      have kt := (H.great s X1 HD1.out.ok).at_ D.out 5 rfl
      rw [E7.out] at kt
      refine kt.mono ?_
      clear kt
      rintro e v16 ⟨rfl, hb⟩
      have D : Hid (Sx w [inO NA N.length NC N, box r 57 #[ptr s, .slice As S.length cs, .slice Aa A.length ca, .slice Ab B.length cb, .int .i64 0, .int .i64 t], inO As S.length cs S, inO Aa A.length ca A, inO Ab B.length cb B, spaO s X1] v16) := Lib.hid hb
      clear hb
      have D := Lib.hid (run_shut (D.out.sel 6 [1, 2, 3, 4, 5, 0] [] (by decide)))
      clear E1 E2 E3 E4 E5 E6 E7 HN
      go_wp2_with fail
      go_loopw [14] (fun s14 wr => ∃ (k : Nat) (X2 : Sp) (S2 A2 B2 : List Int) (t2 : Int), k ≤ 20 ∧ s14 = .int .i64 k ∧ Hid (Rn X2 S2 A2 B2 N t2 (i + k)) ∧ Hid (Sx w [runO r s S2 A2 B2 t2, spaO s X2, inO NA N.length NC N] wr)) (fun s14 _ => 20 - (intOf s14).toNat)
      case atStart => exact ⟨0, X1, S, A, B, t, by omega, rfl, HD1, D⟩
      case round =>
        obtain ⟨k, X2, S2, A2, B2, t2, hk, rfl, HR, HD⟩ := hrel
        clear D HD1
        have D := HD
        clear HD
        by_cases hltk : k < n2
        · have hk0 : (0 : Int) ≤ (k : Int) := by omega
          have hk1 : (k : Int) < (n2 : Int) := by omega
          by_cases h20 : k < 20
          · have hi2 : (k : Int) < 20 := by omega
            have hwi : IntKind.i64.wrap ((k : Int) + 1) = (k : Int) + 1 := IntWalk.i64_in _ (by omega)
            obtain ⟨g, o, rfl, hb, hc⟩ := GK.out.lies (by omega)
            have y0 := D.out.K.cell (hc k hltk 0 (by decide))
            have y1 := D.out.K.cell (hc k hltk 1 (by decide))
            have y2 := D.out.K.cell (hc k hltk 2 (by decide))
            have y3 := D.out.K.cell (hc k hltk 3 (by decide))
            have y4 := D.out.K.cell (hc k hltk 4 (by decide))
            clear hc
            simp only [Nat.add_zero] at y0
            obtain ⟨t3, ht3⟩ : ∃ t3, t2 + f2 k 1 % 1073741824 = t3 := ⟨_, rfl⟩
            have ks := Lib.hid (step_any H HR.out (by omega) (f2 k 0) (f2 k 1) (f2 k 2) (f2 k 3) (f2 k 4) ht3 rfl D.out.swap)
            clear ht3
            go_wp2_with fail
            refine ks.out.mono ?_
            rintro e v9 ⟨rfl, X3, S3, A3, B3, hR, _, _, hb⟩
            have D := Lib.hid hb.swap
            have HR2 := Lib.hid hR
            clear hb hR ks
            go_wp2_with fail
            go_roundw
            case rel => exact ⟨k + 1, X3, S3, A3, B3, t3, by omega, by go_num, HR2, D⟩
            case measure => simp [intOf]; omega
          · have hi2 : ¬ (k : Int) < 20 := by omega
            have hri := rn_ri HR.out (by omega)
            have hAl : A2.length ≤ 1000 := by have h1 := hri.len; have h2 := HR.out.cnt; omega
            have hBl : B2.length ≤ 1000 := by have h1 := hri.len; have h2 := HR.out.cnt; omega
            have hNl : N.length ≤ 1000 := by have h1 := hri.len; have h2 := HR.out.cnt; omega
            clear hri
            obtain ⟨As2, cs2, Aa2, ca2, Ab2, cb2, hb⟩ := run_open D.out
            have D : Hid (Sx w [box r 57 #[ptr s, .slice As2 S2.length cs2, .slice Aa2 A2.length ca2, .slice Ab2 B2.length cb2, .int .i64 0, .int .i64 t2], inO As2 S2.length cs2 S2, inO Aa2 A2.length ca2 A2, inO Ab2 B2.length cb2 B2, spaO s X2, inO NA N.length NC N] wr) := Lib.hid hb
            clear hb
            go_wp2_with fail
            go_loopw [15] (fun s15 wx => ∃ j : Nat, j ≤ N.length ∧ s15 = .int .i64 j ∧ Hid (Sx w [box r 57 #[ptr s, .slice As2 S2.length cs2, .slice Aa2 A2.length ca2, .slice Ab2 B2.length cb2, .int .i64 0, .int .i64 t2], inO As2 S2.length cs2 S2, inO Aa2 A2.length ca2 A2, inO Ab2 B2.length cb2 B2, spaO s X2, inO NA N.length NC N] wx)) (fun s15 _ => N.length - (intOf s15).toNat)
            case atStart => exact ⟨0, Nat.zero_le _, rfl, D⟩
            case round =>
              obtain ⟨j, hj, rfl, HD⟩ := hrel
              clear D
              have D := HD
              clear HD
              by_cases hjl : j < N.length
              · have hj0 : (0 : Int) ≤ (j : Int) := by omega
                have hj1 : (j : Int) < (N.length : Int) := by omega
                have hwj : IntKind.i64.wrap ((j : Int) + 1) = (j : Int) + 1 := IntWalk.i64_in _ (by omega)
                obtain ⟨g, rfl, hg⟩ := (row_at D.out 5 rfl).some_ (by omega)
                obtain ⟨-, q2, q3⟩ := HR.out.g _ (Cd.at_mem hjl)
                obtain ⟨x, hx⟩ : ∃ x, Cd.at_ N j = x := ⟨_, rfl⟩
                rw [hx] at q2 q3
                have S0 : Hid (∀ U, Sx w [box r 57 #[ptr s, .slice As2 S2.length cs2, .slice Aa2 A2.length ca2, .slice Ab2 B2.length cb2, .int .i64 0, .int .i64 t2], inO As2 S2.length cs2 S2, inO Aa2 A2.length ca2 A2, inO Ab2 B2.length cb2 B2, spaO s X2, inO (some ⟨g, 0, none⟩) N.length NC N] U → U.cell? ⟨r, 2, none⟩ = some (.slice Aa2 A2.length ca2) ∧ U.cell? ⟨r, 3, none⟩ = some (.slice Ab2 B2.length cb2) ∧ U.cell? ⟨g, j, none⟩ = some (.int .i64 x)) := Lib.hid (fun U h => ⟨(h.box_ 0 rfl).cell 2, (h.box_ 0 rfl).cell 3, by rw [← hx]; exact in_cell (row_at h 5 rfl) hjl⟩)
                have kA : Hid (∀ U, Sx w [box r 57 #[ptr s, .slice As2 S2.length cs2, .slice Aa2 A2.length ca2, .slice Ab2 B2.length cb2, .int .i64 0, .int .i64 t2], inO As2 S2.length cs2 S2, inO Aa2 A2.length ca2 A2, inO Ab2 B2.length cb2 B2, spaO s X2, inO (some ⟨g, 0, none⟩) N.length NC N] U → Calls Tryz.prog 29 #[.slice Aa2 A2.length ca2, .int .i64 x] U (Gets (.bool false) w [box r 57 #[ptr s, .slice As2 S2.length cs2, .slice Aa2 A2.length ca2, .slice Ab2 B2.length cb2, .int .i64 0, .int .i64 t2], inO As2 S2.length cs2 S2, inO Aa2 A2.length ca2 A2, inO Ab2 B2.length cb2 B2, spaO s X2, inO (some ⟨g, 0, none⟩) N.length NC N])) := Lib.hid (fun U hU => by have := has_sx 2 hU rfl hAl x; rwa [inL_no q2] at this)
                have kB : Hid (∀ U, Sx w [box r 57 #[ptr s, .slice As2 S2.length cs2, .slice Aa2 A2.length ca2, .slice Ab2 B2.length cb2, .int .i64 0, .int .i64 t2], inO As2 S2.length cs2 S2, inO Aa2 A2.length ca2 A2, inO Ab2 B2.length cb2 B2, spaO s X2, inO (some ⟨g, 0, none⟩) N.length NC N] U → Calls Tryz.prog 29 #[.slice Ab2 B2.length cb2, .int .i64 x] U (Gets (.bool false) w [box r 57 #[ptr s, .slice As2 S2.length cs2, .slice Aa2 A2.length ca2, .slice Ab2 B2.length cb2, .int .i64 0, .int .i64 t2], inO As2 S2.length cs2 S2, inO Aa2 A2.length ca2 A2, inO Ab2 B2.length cb2 B2, spaO s X2, inO (some ⟨g, 0, none⟩) N.length NC N])) := Lib.hid (fun U hU => by have := has_sx 3 hU rfl hBl x; rwa [inL_no q3] at this)
                clear q2 q3 hx
                have Br := D.out.box_ 0 rfl
                have cr0 := Br.cell 0
                have cr1 := Br.cell 1
                have cr2 := Br.cell 2
                have cr3 := Br.cell 3
                have cr4 := Br.cell 4
                have cr5 := Br.cell 5
                have tr := Br.lt
                clear Br
                go_upto_region 23 with (fail)
                clear cr0 cr1 cr2 cr3 cr4 cr5 tr
                have D : Hid (Sx w [box r 57 #[ptr s, .slice As2 S2.length cs2, .slice Aa2 A2.length ca2, .slice Ab2 B2.length cb2, .int .i64 0, .int .i64 t2], inO As2 S2.length cs2 S2, inO Aa2 A2.length ca2 A2, inO Ab2 B2.length cb2 B2, spaO s X2, inO (some ⟨g, 0, none⟩) N.length NC N] _) := Lib.hid (D.out.on (Kept.refl _).drew)
                go_region_held3 (fun U => U.cell? ⟨r, 2, none⟩ = some (.slice Aa2 A2.length ca2) ∧ U.cell? ⟨r, 3, none⟩ = some (.slice Ab2 B2.length cb2) ∧ U.cell? ⟨g, j, none⟩ = some (.int .i64 x))
                  (first | with_reducible exact S0.out _ D.out)
                  (first
                    | (go_at_call 29; (with_reducible refine (kA.out _ D.out).mono ?_); rintro e w' ⟨rfl, hb⟩; have D := Lib.hid hb; clear hb)
                    | (go_at_call 29; (with_reducible refine (kB.out _ D.out).mono ?_); rintro e w' ⟨rfl, hb⟩; have D := Lib.hid hb; clear hb))
                go_wp2_with fail
                go_roundw
                case rel => exact ⟨j + 1, by omega, by go_num, D⟩
                case measure => simp [intOf]; omega
              · have hj1 : ¬ (j : Int) < (N.length : Int) := by omega
                go_wp2_with fail
                refine (works_any H _).mono ?_
                rintro e v8 ⟨rfl, hk⟩
                have D := Lib.hid (D.out.on hk)
                clear hk
                go_wp2_with fail
                go_ret
                exact ⟨rfl, D.out.K⟩
        · have hk1 : ¬ (k : Int) < (n2 : Int) := by omega
          have hri := rn_ri HR.out (by omega)
          have hAl : A2.length ≤ 1000 := by have h1 := hri.len; have h2 := HR.out.cnt; omega
          have hBl : B2.length ≤ 1000 := by have h1 := hri.len; have h2 := HR.out.cnt; omega
          have hNl : N.length ≤ 1000 := by have h1 := hri.len; have h2 := HR.out.cnt; omega
          clear hri
          obtain ⟨As2, cs2, Aa2, ca2, Ab2, cb2, hb⟩ := run_open D.out
          have D : Hid (Sx w [box r 57 #[ptr s, .slice As2 S2.length cs2, .slice Aa2 A2.length ca2, .slice Ab2 B2.length cb2, .int .i64 0, .int .i64 t2], inO As2 S2.length cs2 S2, inO Aa2 A2.length ca2 A2, inO Ab2 B2.length cb2 B2, spaO s X2, inO NA N.length NC N] wr) := Lib.hid hb
          clear hb
          go_wp2_with fail
          go_loopw [15] (fun s15 wx => ∃ j : Nat, j ≤ N.length ∧ s15 = .int .i64 j ∧ Hid (Sx w [box r 57 #[ptr s, .slice As2 S2.length cs2, .slice Aa2 A2.length ca2, .slice Ab2 B2.length cb2, .int .i64 0, .int .i64 t2], inO As2 S2.length cs2 S2, inO Aa2 A2.length ca2 A2, inO Ab2 B2.length cb2 B2, spaO s X2, inO NA N.length NC N] wx)) (fun s15 _ => N.length - (intOf s15).toNat)
          case atStart => exact ⟨0, Nat.zero_le _, rfl, D⟩
          case round =>
            obtain ⟨j, hj, rfl, HD⟩ := hrel
            clear D
            have D := HD
            clear HD
            by_cases hjl : j < N.length
            · have hj0 : (0 : Int) ≤ (j : Int) := by omega
              have hj1 : (j : Int) < (N.length : Int) := by omega
              have hwj : IntKind.i64.wrap ((j : Int) + 1) = (j : Int) + 1 := IntWalk.i64_in _ (by omega)
              obtain ⟨g, rfl, hg⟩ := (row_at D.out 5 rfl).some_ (by omega)
              obtain ⟨-, q2, q3⟩ := HR.out.g _ (Cd.at_mem hjl)
              obtain ⟨x, hx⟩ : ∃ x, Cd.at_ N j = x := ⟨_, rfl⟩
              rw [hx] at q2 q3
              have S0 : Hid (∀ U, Sx w [box r 57 #[ptr s, .slice As2 S2.length cs2, .slice Aa2 A2.length ca2, .slice Ab2 B2.length cb2, .int .i64 0, .int .i64 t2], inO As2 S2.length cs2 S2, inO Aa2 A2.length ca2 A2, inO Ab2 B2.length cb2 B2, spaO s X2, inO (some ⟨g, 0, none⟩) N.length NC N] U → U.cell? ⟨r, 2, none⟩ = some (.slice Aa2 A2.length ca2) ∧ U.cell? ⟨r, 3, none⟩ = some (.slice Ab2 B2.length cb2) ∧ U.cell? ⟨g, j, none⟩ = some (.int .i64 x)) := Lib.hid (fun U h => ⟨(h.box_ 0 rfl).cell 2, (h.box_ 0 rfl).cell 3, by rw [← hx]; exact in_cell (row_at h 5 rfl) hjl⟩)
              have kA : Hid (∀ U, Sx w [box r 57 #[ptr s, .slice As2 S2.length cs2, .slice Aa2 A2.length ca2, .slice Ab2 B2.length cb2, .int .i64 0, .int .i64 t2], inO As2 S2.length cs2 S2, inO Aa2 A2.length ca2 A2, inO Ab2 B2.length cb2 B2, spaO s X2, inO (some ⟨g, 0, none⟩) N.length NC N] U → Calls Tryz.prog 29 #[.slice Aa2 A2.length ca2, .int .i64 x] U (Gets (.bool false) w [box r 57 #[ptr s, .slice As2 S2.length cs2, .slice Aa2 A2.length ca2, .slice Ab2 B2.length cb2, .int .i64 0, .int .i64 t2], inO As2 S2.length cs2 S2, inO Aa2 A2.length ca2 A2, inO Ab2 B2.length cb2 B2, spaO s X2, inO (some ⟨g, 0, none⟩) N.length NC N])) := Lib.hid (fun U hU => by have := has_sx 2 hU rfl hAl x; rwa [inL_no q2] at this)
              have kB : Hid (∀ U, Sx w [box r 57 #[ptr s, .slice As2 S2.length cs2, .slice Aa2 A2.length ca2, .slice Ab2 B2.length cb2, .int .i64 0, .int .i64 t2], inO As2 S2.length cs2 S2, inO Aa2 A2.length ca2 A2, inO Ab2 B2.length cb2 B2, spaO s X2, inO (some ⟨g, 0, none⟩) N.length NC N] U → Calls Tryz.prog 29 #[.slice Ab2 B2.length cb2, .int .i64 x] U (Gets (.bool false) w [box r 57 #[ptr s, .slice As2 S2.length cs2, .slice Aa2 A2.length ca2, .slice Ab2 B2.length cb2, .int .i64 0, .int .i64 t2], inO As2 S2.length cs2 S2, inO Aa2 A2.length ca2 A2, inO Ab2 B2.length cb2 B2, spaO s X2, inO (some ⟨g, 0, none⟩) N.length NC N])) := Lib.hid (fun U hU => by have := has_sx 3 hU rfl hBl x; rwa [inL_no q3] at this)
              clear q2 q3 hx
              have Br := D.out.box_ 0 rfl
              have cr0 := Br.cell 0
              have cr1 := Br.cell 1
              have cr2 := Br.cell 2
              have cr3 := Br.cell 3
              have cr4 := Br.cell 4
              have cr5 := Br.cell 5
              have tr := Br.lt
              clear Br
              go_upto_region 23 with (fail)
              clear cr0 cr1 cr2 cr3 cr4 cr5 tr
              have D : Hid (Sx w [box r 57 #[ptr s, .slice As2 S2.length cs2, .slice Aa2 A2.length ca2, .slice Ab2 B2.length cb2, .int .i64 0, .int .i64 t2], inO As2 S2.length cs2 S2, inO Aa2 A2.length ca2 A2, inO Ab2 B2.length cb2 B2, spaO s X2, inO (some ⟨g, 0, none⟩) N.length NC N] _) := Lib.hid (D.out.on (Kept.refl _).drew)
              go_region_held3 (fun U => U.cell? ⟨r, 2, none⟩ = some (.slice Aa2 A2.length ca2) ∧ U.cell? ⟨r, 3, none⟩ = some (.slice Ab2 B2.length cb2) ∧ U.cell? ⟨g, j, none⟩ = some (.int .i64 x))
                (first | with_reducible exact S0.out _ D.out)
                (first
                  | (go_at_call 29; (with_reducible refine (kA.out _ D.out).mono ?_); rintro e w' ⟨rfl, hb⟩; have D := Lib.hid hb; clear hb)
                  | (go_at_call 29; (with_reducible refine (kB.out _ D.out).mono ?_); rintro e w' ⟨rfl, hb⟩; have D := Lib.hid hb; clear hb))
              go_wp2_with fail
              go_roundw
              case rel => exact ⟨j + 1, by omega, by go_num, D⟩
              case measure => simp [intOf]; omega
            · have hj1 : ¬ (j : Int) < (N.length : Int) := by omega
              go_wp2_with fail
              refine (works_any H _).mono ?_
              rintro e v8 ⟨rfl, hk⟩
              have D := Lib.hid (D.out.on hk)
              clear hk
              go_wp2_with fail
              go_ret
              exact ⟨rfl, D.out.K⟩
end Go.Proofs.YtilkgjpgoogiiaaGreat.Spa
