/-
  The walk of the law SpaceBehind of layer 17.
-/
import Derived.Test.YtilkgjpgoogiiaaGreatSpaaJ43a
import Derived.Test.YtilkgjpgoogiiaaGreatSpaabJ15a
import Derived.Test.YtilkgjpgoogiiaaGreatWrdabJ8a
set_option maxRecDepth 100000
set_option maxHeartbeats 16000000
set_option linter.unusedVariables false
set_option linter.unusedSimpArgs false
namespace Go.Proofs.YtilkgjpgoogiiaaGreat.Spa
open Go.RowKit Wd Bxs Obs Ths SpaM
open LosM (wait lostL restL lostB atF)
open SntM (Pk putErr putL putTop dropL getP getB fly eli)
open Snt (pkC pkV pkA)
open SpnM (R addErr addTo cutErr cutTo has add)
open FrmM (Ack check)
open RttM (Rt)
open Rtt (rtV rtA)
theorem std_wait : wait std = 1000000 := by decide
structure Bh (X Y : Sp) (t : Int) : Prop where
  low : ∀ p ∈ Y.l, X.gr - 3 < p.n
  gr : Y.gr = X.gr
  nev : Y.lo = -1 → ∀ p ∈ Y.l, X.gr < p.n
  due : Y.lo ≠ -1 → t < Y.lo ∧ loseE Y Y.lo std = 0 ∧ 1 ≤ (loseL Y Y.lo std).length
theorem bh {X : Sp} {S A B G : List Int} {t : Int} {m : Nat} (h : Rn X S A B G t m) (hm : m ≤ 300) : Bh X (lose X t std) t := by
  have e := lose_std h hm
  have hok := lose_ok h.ok t std
  have hb := behind (X := X) e
  rw [(lose_yes e).1] at hb hok ⊢
  have hv := fun p hp => (h.ok.log.good p hp).1
  have hd : ∀ p ∈ X.l, 0 ≤ p.t ∧ p.t + wait std ≤ 9007199254740991 := fun p hp => by
    have h1 := (hv p hp).2.2.1
    have h2 := h.ti p hp
    have h3 := h.now1
    rw [std_wait]
    omega
  have hd0 : ∀ p ∈ X.l, 0 ≤ LosM.due (wait std) p := fun p hp => by have h1 := hd p hp; have h2 := std_wait; unfold LosM.due; omega
  refine ⟨hb, rfl, fun h1 p hp => LosM.timer_never hd0 h1 hp, fun h1 => ?_⟩
  obtain ⟨h2, h3, -⟩ := LosM.timer_math hd (by rw [std_wait]; omega) h1
  rcases LosM.atF_spec (a := X.gr) (now := t) hd0 with ⟨h4, _⟩ | ⟨_, ⟨q, hq, h5, h6, h7⟩, _⟩
  · exact absurd h4 h1
  have hn := h.now0
  have e2 : loseE { X with l := restL X.gr t (wait std) X.l, lo := atF X.gr t (wait std) X.l } (atF X.gr t (wait std) X.l) std = 0 := by
    rw [loseE_is hok, if_pos (by unfold RttM.tm; omega)]; decide
  refine ⟨h2, e2, ?_⟩
  rw [(lose_yes e2).2]
  have hdq : LosM.due (wait std) q = q.t + wait std := by have := hd q hq; unfold LosM.due; omega
  refine List.length_pos_of_mem (a := q) (List.mem_filter.2 ⟨List.mem_filter.2 ⟨hq, by rw [h5]; rfl⟩, ?_⟩)
  exact decide_eq_true ⟨h6, .inr (by show q.t + wait std ≤ atF X.gr t (wait std) X.l; omega)⟩
theorem run_new {w V : World} {M : List Ob} {s : Nat} (h : Sx w M V) : Sx w (runO V.heap.size s [] [] [] 0 :: M) (V.alloc (.cells #[ptr s, .slice none 0 0, .slice none 0 0, .slice none 0 0, .int .i64 0, .int .i64 0] 57)) :=
  run_shut (As := none) (cs := 0) (Aa := none) (ca := 0) (Ab := none) (cb := 0) ((row_nil (C := inC) (t := 3) (row_nil (C := inC) (t := 3) (row_nil (C := inC) (t := 3) (h.new 57 #[ptr s, .slice none 0 0, .slice none 0 0, .slice none 0 0, .int .i64 0, .int .i64 0])))).sel 4 [3, 0, 1, 2] [] (by decide))
theorem spaceBehind_any {spaO : Nat → Sp → Ob} (H : SpaS spaO) (room : Int) (A0 : Option Addr) (n cp : Nat) (f : Nat → Nat → Int) (w : World) (h : Num.Grid 5 w A0 n cp f) : Calls Tryz.prog 5 #[.int .i64 room, .slice A0 n cp] w fun e w' => e = .returned (.bool true) ∧ Kept w w' := by
  have GH := Lib.hid h
  clear h
  have kr := Lib.hid (fun W => bring_any room 40 W (by decide) (by decide))
  have a0 := Int.emod_nonneg room (show (40 : Int) ≠ 0 by decide)
  have b0 := Int.emod_lt_of_pos room (show (0 : Int) < 40 by decide)
  generalize room % 40 = M0 at *
  obtain ⟨u, hu⟩ : ∃ u : Nat, 1 + M0 = (u : Int) := ⟨(1 + M0).toNat, by omega⟩
  have wu : IntKind.i64.wrap (1 + M0) = (u : Int) := by rw [hu]; exact IntWalk.i64_in _ (by omega)
  have hu1 : 1 ≤ u := by omega
  have hu2 : u ≤ 256 := by omega
  clear hu a0 b0
  have D : Hid (Sx w [] w) := Lib.hid (Sx.nil w)
  have k0 := Lib.hid (fun V (hV : Sx w [] V) => H.new hV u hu1 hu2)
  go_enter Tryz.func5, Tryz.ntmps5
  go_wp2_with fail
  refine (kr.out _).mono ?_
  rintro e w' ⟨rfl, rfl⟩
  clear kr
  go_wp2_with fail
  refine (k0.out _ D.out).mono ?_
  rintro e v1 ⟨s, rfl, hb⟩
  have D : Hid (Sx w [spaO s (SpaM.new u)] v1) := Lib.hid hb
  clear hb k0 wu
  go_wp2_with fail
  have D := Lib.hid (run_new (s := s) D.out)
  generalize v1.alloc (.cells #[ptr s, .slice none 0 0, .slice none 0 0, .slice none 0 0, .int .i64 0, .int .i64 0] 57) = v2 at *
  generalize v1.heap.size = r at *
  go_loopw [8] (fun s8 wr => ∃ (i : Nat) (X : Sp) (S A B : List Int) (t : Int), i ≤ 60 ∧ s8 = .int .i64 i ∧ Hid (Rn X S A B [] t i) ∧ Hid (Sx w [runO r s S A B t, spaO s X] wr)) (fun s8 _ => 60 - (intOf s8).toNat)
  case atStart => exact ⟨0, SpaM.new u, [], [], [], 0, by omega, rfl, Lib.hid (Rn.new ⟨hu1, hu2⟩), D⟩
  case round =>
    obtain ⟨i, X, S, A, B, t, hi, rfl, HR, HD⟩ := hrel
    clear D hu1 hu2
    have D := HD
    clear HD
    by_cases hlt : i < n
    · have hi0 : (0 : Int) ≤ (i : Int) := by omega
      have hi1 : (i : Int) < (n : Int) := by omega
      by_cases h60 : i < 60
      · have hi2 : (i : Int) < 60 := by omega
        have hwi : IntKind.i64.wrap ((i : Int) + 1) = (i : Int) + 1 := IntWalk.i64_in _ (by omega)
        obtain ⟨g, o, rfl, hb, hc⟩ := GH.out.lies (by omega)
        have y0 := D.out.K.cell (hc i hlt 0 (by decide))
        have y1 := D.out.K.cell (hc i hlt 1 (by decide))
        have y2 := D.out.K.cell (hc i hlt 2 (by decide))
        have y3 := D.out.K.cell (hc i hlt 3 (by decide))
        have y4 := D.out.K.cell (hc i hlt 4 (by decide))
        clear hc
        simp only [Nat.add_zero] at y0
        obtain ⟨t2, ht2⟩ : ∃ t2, t + f i 1 % 1073741824 = t2 := ⟨_, rfl⟩
        have ks := Lib.hid (step_any H HR.out (by omega) (f i 0) (f i 1) (f i 2) (f i 3) (f i 4) ht2 rfl D.out.swap)
        clear ht2
        go_wp2_with fail
        refine ks.out.mono ?_
        rintro e v9 ⟨rfl, X2, S2, A2, B2, hR, _, _, hb⟩
        have D := Lib.hid hb.swap
        have HR2 := Lib.hid hR
        clear hb hR ks
        go_wp2_with fail
        go_roundw
        case rel => exact ⟨i + 1, X2, S2, A2, B2, t2, by omega, by go_num, HR2, D⟩
        case measure => simp [intOf]; omega
      · have hi2 : ¬ (i : Int) < 60 := by omega
        have HB := Lib.hid (bh HR.out (by omega))
        have kst := Lib.hid (fun V (hV : Sx w [spaO s X, runO r s S A B t] V) => step_any H HR.out (by omega) 5 0 0 0 0 (t := t) (k6 := 5) (by omega) (by decide) hV)
        have hg0 : -1 ≤ X.gr ∧ X.gr ≤ 9007199254740991 := by rcases HR.out.ok.gr_bd with h1 | h1 <;> omega
        obtain ⟨As, cs, Aa, ca, Ab, cb, hb⟩ := run_open D.out
        have D : Hid (Sx w [box r 57 #[ptr s, .slice As S.length cs, .slice Aa A.length ca, .slice Ab B.length cb, .int .i64 0, .int .i64 t], inO As S.length cs S, inO Aa A.length ca A, inO Ab B.length cb B, spaO s X] wr) := Lib.hid hb
        clear hb
        have Br := D.out.box_ 0 rfl
        have cr0 := Br.cell 0
        have cr1 := Br.cell 1
        have cr2 := Br.cell 2
        have cr3 := Br.cell 3
        have cr4 := Br.cell 4
        have cr5 := Br.cell 5
        have tr := Br.lt
        clear Br
        go_wp2_with fail
        clear cr0 cr1 cr2 cr3 cr4 cr5 tr
        refine ((H.great s X HR.out.ok).at_ D.out 4 rfl).mono ?_
        rintro e v3 ⟨rfl, hb⟩
        have D : Hid (Sx w [box r 57 #[ptr s, .slice As S.length cs, .slice Aa A.length ca, .slice Ab B.length cb, .int .i64 0, .int .i64 t], inO As S.length cs S, inO Aa A.length ca A, inO Ab B.length cb B, spaO s X] v3) := Lib.hid hb
        clear hb
        have D : Hid (Sx w [runO r s S A B t, spaO s X] v3) := Lib.hid (run_shut D.out)
        go_wp2_with fail
        refine (kst.out _ D.out.swap).mono ?_
        rintro e v4 ⟨rfl, Y, S2, A2, B2, hR, _, hY, hb⟩
        have hY := hY rfl
        subst hY
        have HRY := Lib.hid hR
        obtain ⟨As2, cs2, Aa2, ca2, Ab2, cb2, hb⟩ := run_open hb.swap
        clear kst hR
        generalize hYY : lose X t std = Y at *
        clear hYY
        have D : Hid (Sx w [box r 57 #[ptr s, .slice As2 S2.length cs2, .slice Aa2 A2.length ca2, .slice Ab2 B2.length cb2, .int .i64 0, .int .i64 t], inO As2 S2.length cs2 S2, inO Aa2 A2.length ca2 A2, inO Ab2 B2.length cb2 B2, spaO s Y] v4) := Lib.hid hb
        clear hb
        obtain ⟨gX, hgX⟩ : ∃ gX, X.gr = gX := ⟨_, rfl⟩
        have hgr : Y.gr = gX := HB.out.gr.trans hgX
        have hlow : Hid (∀ p ∈ Y.l, gX - 3 < p.n) := Lib.hid (by rw [← hgX]; exact HB.out.low)
        have hnev : Hid (Y.lo = -1 → ∀ p ∈ Y.l, gX < p.n) := Lib.hid (by rw [← hgX]; exact HB.out.nev)
        have hdue := Lib.hid HB.out.due
        rw [hgX] at hg0 ⊢
        have wg : IntKind.i64.wrap (gX - 3) = gX - 3 := IntWalk.i64_in _ (by omega)
        clear hg0 hgX HB HR
        have hYl : Y.l.length ≤ 256 := Nat.le_trans HRY.out.ok.log.len HRY.out.ok.log.room1.2
        have Br := D.out.box_ 0 rfl
        have cr0 := Br.cell 0
        have cr1 := Br.cell 1
        have cr2 := Br.cell 2
        have cr3 := Br.cell 3
        have cr4 := Br.cell 4
        have cr5 := Br.cell 5
        have tr := Br.lt
        clear Br
        go_wp2_with fail
        clear cr0 cr1 cr2 cr3 cr4 cr5 tr
        refine (H.all HRY.out.ok D.out 4 rfl).mono ?_
        rintro e v5 ⟨AL, cL, rfl, hb⟩
        have D : Hid (Sx w [pkO AL Y.l.length cL Y.l, box r 57 #[ptr s, .slice As2 S2.length cs2, .slice Aa2 A2.length ca2, .slice Ab2 B2.length cb2, .int .i64 0, .int .i64 t], inO As2 S2.length cs2 S2, inO Aa2 A2.length ca2 A2, inO Ab2 B2.length cb2 B2, spaO s Y] v5) := Lib.hid hb
        clear hb
        have Br := D.out.box_ 1 rfl
        have cr0 := Br.cell 0
        have cr1 := Br.cell 1
        have cr2 := Br.cell 2
        have cr3 := Br.cell 3
        have cr4 := Br.cell 4
        have cr5 := Br.cell 5
        have tr := Br.lt
        clear Br
        go_wp2_with fail
        clear cr0 cr1 cr2 cr3 cr4 cr5 tr
        have kt := (H.great s Y HRY.out.ok).at_ D.out 5 rfl
        rw [hgr] at kt
        refine kt.mono ?_
        clear kt
        rintro e v6 ⟨rfl, hb⟩
        have D : Hid (Sx w [pkO AL Y.l.length cL Y.l, box r 57 #[ptr s, .slice As2 S2.length cs2, .slice Aa2 A2.length ca2, .slice Ab2 B2.length cb2, .int .i64 0, .int .i64 t], inO As2 S2.length cs2 S2, inO Aa2 A2.length ca2 A2, inO Ab2 B2.length cb2 B2, spaO s Y] v6) := Lib.hid hb
        clear hb hgr
        go_wp2_with fail
        go_loop [11] (fun s11 => ∃ k : Nat, k ≤ Y.l.length ∧ s11 = .int .i64 k) (fun s11 => Y.l.length - (intOf s11).toNat)
        case atStart => exact ⟨0, Nat.zero_le _, rfl⟩
        case round =>
          obtain ⟨k, hk, rfl⟩ := hrel
          by_cases hkl : k < Y.l.length
          · have hk0 : (0 : Int) ≤ (k : Int) := by omega
            have hk1 : (k : Int) < (Y.l.length : Int) := by omega
            have hwk : IntKind.i64.wrap ((k : Int) + 1) = (k : Int) + 1 := IntWalk.i64_in _ (by omega)
            obtain ⟨g, rfl, hg⟩ := (pk_row D.out 0 rfl).some_ (by omega)
            have y0 := (Snt.prow_cells (pk_row D.out 0 rfl) hkl).1
            have hl := hlow.out _ (Cd.at_mem hkl)
            generalize (Cd.at_ Y.l k).n = x at *
            have dn : decide (x ≤ gX - 3) = false := decide_eq_false (by omega)
            clear hl
            go_wp2_with fail
            go_round
            case rel => exact ⟨k + 1, by omega, by go_num⟩
            case measure => simp [intOf]; omega
          · have Br := D.out.box_ 1 rfl
            have cr0 := Br.cell 0
            have cr1 := Br.cell 1
            have cr2 := Br.cell 2
            have cr3 := Br.cell 3
            have cr4 := Br.cell 4
            have cr5 := Br.cell 5
            have tr := Br.lt
            clear Br
            have hkn : ¬ (k : Int) < (Y.l.length : Int) := by omega
            go_wp2_with fail
            clear cr0 cr1 cr2 cr3 cr4 cr5 tr
            have kt := (H.loss s Y HRY.out.ok).at_ D.out 5 rfl
            by_cases hlo : Y.lo = -1
            · rw [hlo] at kt
              refine kt.mono ?_
              clear kt
              rintro e v7 ⟨rfl, hb⟩
              have D : Hid (Sx w [pkO AL Y.l.length cL Y.l, box r 57 #[ptr s, .slice As2 S2.length cs2, .slice Aa2 A2.length ca2, .slice Ab2 B2.length cb2, .int .i64 0, .int .i64 t], inO As2 S2.length cs2 S2, inO Aa2 A2.length ca2 A2, inO Ab2 B2.length cb2 B2, spaO s Y] v7) := Lib.hid hb
              clear hb
              by_cases hl0 : Y.l.length = 0
              · have e0 : ((Y.l.length : Int) == 0) = true := beq_iff_eq.2 (by omega)
                go_wp2_with fail
                refine (works_any H _).mono ?_
                rintro e v8 ⟨rfl, hk⟩
                have D := Lib.hid (D.out.on hk)
                clear hk
                go_wp2_with fail
                go_ret
                exact ⟨rfl, D.out.K⟩
              · have e0 : ((Y.l.length : Int) == 0) = false := beq_eq_false_iff_ne.2 (by omega)
                have hz1 : (0 : Int) < (Y.l.length : Int) := by omega
                obtain ⟨g, rfl, hg⟩ := (pk_row D.out 0 rfl).some_ (by omega)
                have y0 := (Snt.prow_cells (pk_row D.out 0 rfl) (show 0 < Y.l.length by omega)).1
                rw [Nat.zero_mul] at y0
                have hl := hnev.out hlo _ (Cd.at_mem (show 0 < Y.l.length by omega))
                generalize (Cd.at_ Y.l 0).n = x at *
                have dn : decide (gX < x) = true := decide_eq_true hl
                clear hl
                go_wp2_with fail
                refine (works_any H _).mono ?_
                rintro e v8 ⟨rfl, hk⟩
                have D := Lib.hid (D.out.on hk)
                clear hk
                go_wp2_with fail
                go_ret
                exact ⟨rfl, D.out.K⟩
            · obtain ⟨h1, h2, h3⟩ := hdue.out hlo
              have kl : Hid (∀ U, Sx w [pkO AL Y.l.length cL Y.l, box r 57 #[ptr s, .slice As2 S2.length cs2, .slice Aa2 A2.length ca2, .slice Ab2 B2.length cb2, .int .i64 0, .int .i64 t], inO As2 S2.length cs2 S2, inO Aa2 A2.length ca2 A2, inO Ab2 B2.length cb2 B2, spaO s Y] U → Calls Tryz.prog 19 #[ptr s, .int .i64 Y.lo, rtV std] U (fun e W => ∃ A1 n1 c1, e = .returned (.tuple #[.slice A1 n1 c1, .int .i64 0]) ∧ n1 = (loseL Y Y.lo std).length ∧ Sx w [pkO A1 n1 c1 (loseL Y Y.lo std), spaO s (lose Y Y.lo std), pkO AL Y.l.length cL Y.l, box r 57 #[ptr s, .slice As2 S2.length cs2, .slice Aa2 A2.length ca2, .slice Ab2 B2.length cb2, .int .i64 0, .int .i64 t], inO As2 S2.length cs2 S2, inO Aa2 A2.length ca2 A2, inO Ab2 B2.length cb2 B2] W)) := Lib.hid (fun U hU => by
                have := H.lose (M := [pkO AL Y.l.length cL Y.l, box r 57 #[ptr s, .slice As2 S2.length cs2, .slice Aa2 A2.length ca2, .slice Ab2 B2.length cb2, .int .i64 0, .int .i64 t], inO As2 S2.length cs2 S2, inO Aa2 A2.length ca2 A2, inO Ab2 B2.length cb2 B2]) Y.lo std HRY.out.ok (hU.sel 6 [5, 0, 1, 2, 3, 4] [] (by decide))
                rwa [h2] at this)
              have S0 : Hid (∀ U, Sx w [pkO AL Y.l.length cL Y.l, box r 57 #[ptr s, .slice As2 S2.length cs2, .slice Aa2 A2.length ca2, .slice Ab2 B2.length cb2, .int .i64 0, .int .i64 t], inO As2 S2.length cs2 S2, inO Aa2 A2.length ca2 A2, inO Ab2 B2.length cb2 B2, spaO s Y] U → U.cell? ⟨r, 0, none⟩ = some (ptr s) ∧ U.cell? ⟨r, 5, none⟩ = some (.int .i64 t)) := Lib.hid (fun U h => ⟨(h.box_ 1 rfl).cell 0, (h.box_ 1 rfl).cell 5⟩)
              have S1 : Hid (∀ U A1 n1 c1 Q Z, Sx w [pkO A1 n1 c1 Q, spaO s Z, pkO AL Y.l.length cL Y.l, box r 57 #[ptr s, .slice As2 S2.length cs2, .slice Aa2 A2.length ca2, .slice Ab2 B2.length cb2, .int .i64 0, .int .i64 t], inO As2 S2.length cs2 S2, inO Aa2 A2.length ca2 A2, inO Ab2 B2.length cb2 B2] U → U.cell? ⟨r, 0, none⟩ = some (ptr s) ∧ U.cell? ⟨r, 5, none⟩ = some (.int .i64 t)) := Lib.hid (fun U A1 n1 c1 Q Z h => ⟨(h.box_ 3 rfl).cell 0, (h.box_ 3 rfl).cell 5⟩)
              clear h2
              generalize loseL Y Y.lo std = Q at *
              generalize lose Y Y.lo std = Z at *
              obtain ⟨at9, hat⟩ : ∃ at9, Y.lo = at9 := ⟨_, rfl⟩
              rw [hat] at h1 kl
              have dt : decide (t < at9) = true := decide_eq_true h1
              have dq : decide ((0 : Int) < (Q.length : Int)) = true := decide_eq_true (by omega)
              have dq' : decide (0 < Q.length) = true := decide_eq_true h3
              have hlo' : (at9 == -1) = false := by rw [← hat]; simp [hlo]
              clear hlo h1 h3 hnev hdue hlow
              have Br := D.out.box_ 1 rfl
              have cr0 := Br.cell 0
              have cr1 := Br.cell 1
              have cr2 := Br.cell 2
              have cr3 := Br.cell 3
              have cr4 := Br.cell 4
              have cr5 := Br.cell 5
              have tr := Br.lt
              clear Br
              rw [hat] at kt
              clear hat
              refine kt.mono ?_
              clear kt
              rintro e v7 ⟨rfl, hb⟩
              have D : Hid (Sx w [pkO AL Y.l.length cL Y.l, box r 57 #[ptr s, .slice As2 S2.length cs2, .slice Aa2 A2.length ca2, .slice Ab2 B2.length cb2, .int .i64 0, .int .i64 t], inO As2 S2.length cs2 S2, inO Aa2 A2.length ca2 A2, inO Ab2 B2.length cb2 B2, spaO s Y] v7) := Lib.hid hb
              clear hb
              clear cr0 cr1 cr2 cr3 cr4 cr5 tr
              have Br := D.out.box_ 1 rfl
              have cr0 := Br.cell 0
              have cr1 := Br.cell 1
              have cr2 := Br.cell 2
              have cr3 := Br.cell 3
              have cr4 := Br.cell 4
              have cr5 := Br.cell 5
              have tr := Br.lt
              clear Br
              go_upto_region 24 with (fail)
              clear cr0 cr1 cr2 cr3 cr4 cr5 tr
              have D : Hid (Sx w [pkO AL Y.l.length cL Y.l, box r 57 #[ptr s, .slice As2 S2.length cs2, .slice Aa2 A2.length ca2, .slice Ab2 B2.length cb2, .int .i64 0, .int .i64 t], inO As2 S2.length cs2 S2, inO Aa2 A2.length ca2 A2, inO Ab2 B2.length cb2 B2, spaO s Y] v7.drew) := Lib.hid (D.out.on (Kept.refl _).drew)
              go_region_held3 (fun U => U.cell? ⟨r, 0, none⟩ = some (ptr s) ∧ U.cell? ⟨r, 5, none⟩ = some (.int .i64 t))
                (first | with_reducible exact S0.out _ D.out | with_reducible exact S1.out _ _ _ _ _ _ D.out)
                (first
                  | (go_at_call 34; (with_reducible refine (steady_any _).mono ?_); rintro e w' ⟨rfl, hk⟩; have D := Lib.hid (D.out.on hk); clear hk)
                  | (go_at_call 19; (with_reducible refine (kl.out _ D.out).mono ?_); rintro e w' ⟨A1, n1, c1, rfl, rfl, hb⟩; have D := Lib.hid hb; clear hb))
              have Br := D.out.box_ 3 rfl
              have cr0 := Br.cell 0
              have cr1 := Br.cell 1
              have cr2 := Br.cell 2
              have cr3 := Br.cell 3
              have cr4 := Br.cell 4
              have cr5 := Br.cell 5
              have tr := Br.lt
              clear Br
              go_wp2_with fail
              clear cr0 cr1 cr2 cr3 cr4 cr5 tr
              refine (works_any H _).mono ?_
              rintro e v8 ⟨rfl, hk⟩
              have D := Lib.hid (D.out.on hk)
              clear hk
              go_wp2_with fail
              go_ret
              exact ⟨rfl, D.out.K⟩
    · have hi1 : ¬ (i : Int) < (n : Int) := by omega
      have HB := Lib.hid (bh HR.out (by omega))
      have kst := Lib.hid (fun V (hV : Sx w [spaO s X, runO r s S A B t] V) => step_any H HR.out (by omega) 5 0 0 0 0 (t := t) (k6 := 5) (by omega) (by decide) hV)
      have hg0 : -1 ≤ X.gr ∧ X.gr ≤ 9007199254740991 := by rcases HR.out.ok.gr_bd with h1 | h1 <;> omega
      obtain ⟨As, cs, Aa, ca, Ab, cb, hb⟩ := run_open D.out
      have D : Hid (Sx w [box r 57 #[ptr s, .slice As S.length cs, .slice Aa A.length ca, .slice Ab B.length cb, .int .i64 0, .int .i64 t], inO As S.length cs S, inO Aa A.length ca A, inO Ab B.length cb B, spaO s X] wr) := Lib.hid hb
      clear hb
      have Br := D.out.box_ 0 rfl
      have cr0 := Br.cell 0
      have cr1 := Br.cell 1
      have cr2 := Br.cell 2
      have cr3 := Br.cell 3
      have cr4 := Br.cell 4
      have cr5 := Br.cell 5
      have tr := Br.lt
      clear Br
      go_wp2_with fail
      clear cr0 cr1 cr2 cr3 cr4 cr5 tr
      refine ((H.great s X HR.out.ok).at_ D.out 4 rfl).mono ?_
      rintro e v3 ⟨rfl, hb⟩
      have D : Hid (Sx w [box r 57 #[ptr s, .slice As S.length cs, .slice Aa A.length ca, .slice Ab B.length cb, .int .i64 0, .int .i64 t], inO As S.length cs S, inO Aa A.length ca A, inO Ab B.length cb B, spaO s X] v3) := Lib.hid hb
      clear hb
      have D : Hid (Sx w [runO r s S A B t, spaO s X] v3) := Lib.hid (run_shut D.out)
      go_wp2_with fail
      refine (kst.out _ D.out.swap).mono ?_
      rintro e v4 ⟨rfl, Y, S2, A2, B2, hR, _, hY, hb⟩
      have hY := hY rfl
      subst hY
      have HRY := Lib.hid hR
      obtain ⟨As2, cs2, Aa2, ca2, Ab2, cb2, hb⟩ := run_open hb.swap
      clear kst hR
      generalize hYY : lose X t std = Y at *
      clear hYY
      have D : Hid (Sx w [box r 57 #[ptr s, .slice As2 S2.length cs2, .slice Aa2 A2.length ca2, .slice Ab2 B2.length cb2, .int .i64 0, .int .i64 t], inO As2 S2.length cs2 S2, inO Aa2 A2.length ca2 A2, inO Ab2 B2.length cb2 B2, spaO s Y] v4) := Lib.hid hb
      clear hb
      obtain ⟨gX, hgX⟩ : ∃ gX, X.gr = gX := ⟨_, rfl⟩
      have hgr : Y.gr = gX := HB.out.gr.trans hgX
      have hlow : Hid (∀ p ∈ Y.l, gX - 3 < p.n) := Lib.hid (by rw [← hgX]; exact HB.out.low)
      have hnev : Hid (Y.lo = -1 → ∀ p ∈ Y.l, gX < p.n) := Lib.hid (by rw [← hgX]; exact HB.out.nev)
      have hdue := Lib.hid HB.out.due
      rw [hgX] at hg0 ⊢
      have wg : IntKind.i64.wrap (gX - 3) = gX - 3 := IntWalk.i64_in _ (by omega)
      clear hg0 hgX HB HR
      have hYl : Y.l.length ≤ 256 := Nat.le_trans HRY.out.ok.log.len HRY.out.ok.log.room1.2
      have Br := D.out.box_ 0 rfl
      have cr0 := Br.cell 0
      have cr1 := Br.cell 1
      have cr2 := Br.cell 2
      have cr3 := Br.cell 3
      have cr4 := Br.cell 4
      have cr5 := Br.cell 5
      have tr := Br.lt
      clear Br
      go_wp2_with fail
      clear cr0 cr1 cr2 cr3 cr4 cr5 tr
      refine (H.all HRY.out.ok D.out 4 rfl).mono ?_
      rintro e v5 ⟨AL, cL, rfl, hb⟩
      have D : Hid (Sx w [pkO AL Y.l.length cL Y.l, box r 57 #[ptr s, .slice As2 S2.length cs2, .slice Aa2 A2.length ca2, .slice Ab2 B2.length cb2, .int .i64 0, .int .i64 t], inO As2 S2.length cs2 S2, inO Aa2 A2.length ca2 A2, inO Ab2 B2.length cb2 B2, spaO s Y] v5) := Lib.hid hb
      clear hb
      have Br := D.out.box_ 1 rfl
      have cr0 := Br.cell 0
      have cr1 := Br.cell 1
      have cr2 := Br.cell 2
      have cr3 := Br.cell 3
      have cr4 := Br.cell 4
      have cr5 := Br.cell 5
      have tr := Br.lt
      clear Br
      go_wp2_with fail
      clear cr0 cr1 cr2 cr3 cr4 cr5 tr
      have kt := (H.great s Y HRY.out.ok).at_ D.out 5 rfl
      rw [hgr] at kt
      refine kt.mono ?_
      clear kt
      rintro e v6 ⟨rfl, hb⟩
      have D : Hid (Sx w [pkO AL Y.l.length cL Y.l, box r 57 #[ptr s, .slice As2 S2.length cs2, .slice Aa2 A2.length ca2, .slice Ab2 B2.length cb2, .int .i64 0, .int .i64 t], inO As2 S2.length cs2 S2, inO Aa2 A2.length ca2 A2, inO Ab2 B2.length cb2 B2, spaO s Y] v6) := Lib.hid hb
      clear hb hgr
      go_wp2_with fail
      go_loop [11] (fun s11 => ∃ k : Nat, k ≤ Y.l.length ∧ s11 = .int .i64 k) (fun s11 => Y.l.length - (intOf s11).toNat)
      case atStart => exact ⟨0, Nat.zero_le _, rfl⟩
      case round =>
        obtain ⟨k, hk, rfl⟩ := hrel
        by_cases hkl : k < Y.l.length
        · have hk0 : (0 : Int) ≤ (k : Int) := by omega
          have hk1 : (k : Int) < (Y.l.length : Int) := by omega
          have hwk : IntKind.i64.wrap ((k : Int) + 1) = (k : Int) + 1 := IntWalk.i64_in _ (by omega)
          obtain ⟨g, rfl, hg⟩ := (pk_row D.out 0 rfl).some_ (by omega)
          have y0 := (Snt.prow_cells (pk_row D.out 0 rfl) hkl).1
          have hl := hlow.out _ (Cd.at_mem hkl)
          generalize (Cd.at_ Y.l k).n = x at *
          have dn : decide (x ≤ gX - 3) = false := decide_eq_false (by omega)
          clear hl
          go_wp2_with fail
          go_round
          case rel => exact ⟨k + 1, by omega, by go_num⟩
          case measure => simp [intOf]; omega
        · have Br := D.out.box_ 1 rfl
          have cr0 := Br.cell 0
          have cr1 := Br.cell 1
          have cr2 := Br.cell 2
          have cr3 := Br.cell 3
          have cr4 := Br.cell 4
          have cr5 := Br.cell 5
          have tr := Br.lt
          clear Br
          have hkn : ¬ (k : Int) < (Y.l.length : Int) := by omega
          go_wp2_with fail
          clear cr0 cr1 cr2 cr3 cr4 cr5 tr
          have kt := (H.loss s Y HRY.out.ok).at_ D.out 5 rfl
          by_cases hlo : Y.lo = -1
          · rw [hlo] at kt
            refine kt.mono ?_
            clear kt
            rintro e v7 ⟨rfl, hb⟩
            have D : Hid (Sx w [pkO AL Y.l.length cL Y.l, box r 57 #[ptr s, .slice As2 S2.length cs2, .slice Aa2 A2.length ca2, .slice Ab2 B2.length cb2, .int .i64 0, .int .i64 t], inO As2 S2.length cs2 S2, inO Aa2 A2.length ca2 A2, inO Ab2 B2.length cb2 B2, spaO s Y] v7) := Lib.hid hb
            clear hb
            by_cases hl0 : Y.l.length = 0
            · have e0 : ((Y.l.length : Int) == 0) = true := beq_iff_eq.2 (by omega)
              go_wp2_with fail
              refine (works_any H _).mono ?_
              rintro e v8 ⟨rfl, hk⟩
              have D := Lib.hid (D.out.on hk)
              clear hk
              go_wp2_with fail
              go_ret
              exact ⟨rfl, D.out.K⟩
            · have e0 : ((Y.l.length : Int) == 0) = false := beq_eq_false_iff_ne.2 (by omega)
              have hz1 : (0 : Int) < (Y.l.length : Int) := by omega
              obtain ⟨g, rfl, hg⟩ := (pk_row D.out 0 rfl).some_ (by omega)
              have y0 := (Snt.prow_cells (pk_row D.out 0 rfl) (show 0 < Y.l.length by omega)).1
              rw [Nat.zero_mul] at y0
              have hl := hnev.out hlo _ (Cd.at_mem (show 0 < Y.l.length by omega))
              generalize (Cd.at_ Y.l 0).n = x at *
              have dn : decide (gX < x) = true := decide_eq_true hl
              clear hl
              go_wp2_with fail
              refine (works_any H _).mono ?_
              rintro e v8 ⟨rfl, hk⟩
              have D := Lib.hid (D.out.on hk)
              clear hk
              go_wp2_with fail
              go_ret
              exact ⟨rfl, D.out.K⟩
          · obtain ⟨h1, h2, h3⟩ := hdue.out hlo
            have kl : Hid (∀ U, Sx w [pkO AL Y.l.length cL Y.l, box r 57 #[ptr s, .slice As2 S2.length cs2, .slice Aa2 A2.length ca2, .slice Ab2 B2.length cb2, .int .i64 0, .int .i64 t], inO As2 S2.length cs2 S2, inO Aa2 A2.length ca2 A2, inO Ab2 B2.length cb2 B2, spaO s Y] U → Calls Tryz.prog 19 #[ptr s, .int .i64 Y.lo, rtV std] U (fun e W => ∃ A1 n1 c1, e = .returned (.tuple #[.slice A1 n1 c1, .int .i64 0]) ∧ n1 = (loseL Y Y.lo std).length ∧ Sx w [pkO A1 n1 c1 (loseL Y Y.lo std), spaO s (lose Y Y.lo std), pkO AL Y.l.length cL Y.l, box r 57 #[ptr s, .slice As2 S2.length cs2, .slice Aa2 A2.length ca2, .slice Ab2 B2.length cb2, .int .i64 0, .int .i64 t], inO As2 S2.length cs2 S2, inO Aa2 A2.length ca2 A2, inO Ab2 B2.length cb2 B2] W)) := Lib.hid (fun U hU => by
              have := H.lose (M := [pkO AL Y.l.length cL Y.l, box r 57 #[ptr s, .slice As2 S2.length cs2, .slice Aa2 A2.length ca2, .slice Ab2 B2.length cb2, .int .i64 0, .int .i64 t], inO As2 S2.length cs2 S2, inO Aa2 A2.length ca2 A2, inO Ab2 B2.length cb2 B2]) Y.lo std HRY.out.ok (hU.sel 6 [5, 0, 1, 2, 3, 4] [] (by decide))
              rwa [h2] at this)
            have S0 : Hid (∀ U, Sx w [pkO AL Y.l.length cL Y.l, box r 57 #[ptr s, .slice As2 S2.length cs2, .slice Aa2 A2.length ca2, .slice Ab2 B2.length cb2, .int .i64 0, .int .i64 t], inO As2 S2.length cs2 S2, inO Aa2 A2.length ca2 A2, inO Ab2 B2.length cb2 B2, spaO s Y] U → U.cell? ⟨r, 0, none⟩ = some (ptr s) ∧ U.cell? ⟨r, 5, none⟩ = some (.int .i64 t)) := Lib.hid (fun U h => ⟨(h.box_ 1 rfl).cell 0, (h.box_ 1 rfl).cell 5⟩)
            have S1 : Hid (∀ U A1 n1 c1 Q Z, Sx w [pkO A1 n1 c1 Q, spaO s Z, pkO AL Y.l.length cL Y.l, box r 57 #[ptr s, .slice As2 S2.length cs2, .slice Aa2 A2.length ca2, .slice Ab2 B2.length cb2, .int .i64 0, .int .i64 t], inO As2 S2.length cs2 S2, inO Aa2 A2.length ca2 A2, inO Ab2 B2.length cb2 B2] U → U.cell? ⟨r, 0, none⟩ = some (ptr s) ∧ U.cell? ⟨r, 5, none⟩ = some (.int .i64 t)) := Lib.hid (fun U A1 n1 c1 Q Z h => ⟨(h.box_ 3 rfl).cell 0, (h.box_ 3 rfl).cell 5⟩)
            clear h2
            generalize loseL Y Y.lo std = Q at *
            generalize lose Y Y.lo std = Z at *
            obtain ⟨at9, hat⟩ : ∃ at9, Y.lo = at9 := ⟨_, rfl⟩
            rw [hat] at h1 kl
            have dt : decide (t < at9) = true := decide_eq_true h1
            have dq : decide ((0 : Int) < (Q.length : Int)) = true := decide_eq_true (by omega)
            have dq' : decide (0 < Q.length) = true := decide_eq_true h3
            have hlo' : (at9 == -1) = false := by rw [← hat]; simp [hlo]
            clear hlo h1 h3 hnev hdue hlow
            have Br := D.out.box_ 1 rfl
            have cr0 := Br.cell 0
            have cr1 := Br.cell 1
            have cr2 := Br.cell 2
            have cr3 := Br.cell 3
            have cr4 := Br.cell 4
            have cr5 := Br.cell 5
            have tr := Br.lt
            clear Br
            rw [hat] at kt
            clear hat
            refine kt.mono ?_
            clear kt
            rintro e v7 ⟨rfl, hb⟩
            have D : Hid (Sx w [pkO AL Y.l.length cL Y.l, box r 57 #[ptr s, .slice As2 S2.length cs2, .slice Aa2 A2.length ca2, .slice Ab2 B2.length cb2, .int .i64 0, .int .i64 t], inO As2 S2.length cs2 S2, inO Aa2 A2.length ca2 A2, inO Ab2 B2.length cb2 B2, spaO s Y] v7) := Lib.hid hb
            clear hb
            clear cr0 cr1 cr2 cr3 cr4 cr5 tr
            have Br := D.out.box_ 1 rfl
            have cr0 := Br.cell 0
            have cr1 := Br.cell 1
            have cr2 := Br.cell 2
            have cr3 := Br.cell 3
            have cr4 := Br.cell 4
            have cr5 := Br.cell 5
            have tr := Br.lt
            clear Br
            go_upto_region 24 with (fail)
            clear cr0 cr1 cr2 cr3 cr4 cr5 tr
            have D : Hid (Sx w [pkO AL Y.l.length cL Y.l, box r 57 #[ptr s, .slice As2 S2.length cs2, .slice Aa2 A2.length ca2, .slice Ab2 B2.length cb2, .int .i64 0, .int .i64 t], inO As2 S2.length cs2 S2, inO Aa2 A2.length ca2 A2, inO Ab2 B2.length cb2 B2, spaO s Y] v7.drew) := Lib.hid (D.out.on (Kept.refl _).drew)
            go_region_held3 (fun U => U.cell? ⟨r, 0, none⟩ = some (ptr s) ∧ U.cell? ⟨r, 5, none⟩ = some (.int .i64 t))
              (first | with_reducible exact S0.out _ D.out | with_reducible exact S1.out _ _ _ _ _ _ D.out)
              (first
                | (go_at_call 34; (with_reducible refine (steady_any _).mono ?_); rintro e w' ⟨rfl, hk⟩; have D := Lib.hid (D.out.on hk); clear hk)
                | (go_at_call 19; (with_reducible refine (kl.out _ D.out).mono ?_); rintro e w' ⟨A1, n1, c1, rfl, rfl, hb⟩; have D := Lib.hid hb; clear hb))
            have Br := D.out.box_ 3 rfl
            have cr0 := Br.cell 0
            have cr1 := Br.cell 1
            have cr2 := Br.cell 2
            have cr3 := Br.cell 3
            have cr4 := Br.cell 4
            have cr5 := Br.cell 5
            have tr := Br.lt
            clear Br
            go_wp2_with fail
            clear cr0 cr1 cr2 cr3 cr4 cr5 tr
            refine (works_any H _).mono ?_
            rintro e v8 ⟨rfl, hk⟩
            have D := Lib.hid (D.out.on hk)
            clear hk
            go_wp2_with fail
            go_ret
            exact ⟨rfl, D.out.K⟩
end Go.Proofs.YtilkgjpgoogiiaaGreat.Spa
