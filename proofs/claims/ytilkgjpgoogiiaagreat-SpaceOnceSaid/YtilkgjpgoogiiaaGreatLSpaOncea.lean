/-
  The walk of the law SpaceOnce of layer 17.
-/
import Derived.Test.YtilkgjpgoogiiaaGreatLSpaBehinda
set_option maxRecDepth 100000
set_option maxHeartbeats 16000000
set_option linter.unusedVariables false
set_option linter.unusedSimpArgs false
namespace Go.Proofs.YtilkgjpgoogiiaaGreat.Spa
open Go.RowKit Wd Bxs Obs Ths SpaM
open SntM (fly_append eli_append fly_bd eli_bd)
open SntM (Pk putErr putL putTop dropL getP getB fly eli)
open Snt (pkC pkV pkA)
open SpnM (R addErr addTo cutErr cutTo has add)
open FrmM (Ack check)
open RttM (Rt)
open Rtt (rtV rtA)
theorem fly_next {l : List Pk} {k : Nat} (h : k < l.length) : fly (l.take (k + 1)) = fly (l.take k) + (if (Cd.at_ l k).f = true then (Cd.at_ l k).s else 0) := by
  rw [take_snoc h, fly_append]; simp [fly]
theorem eli_next {l : List Pk} {k : Nat} (h : k < l.length) : eli (l.take (k + 1)) = eli (l.take k) + (if (Cd.at_ l k).f = true then (if (Cd.at_ l k).e = true then 1 else 0) else 0) := by
  rw [take_snoc h, eli_append]; simp [eli]
theorem fly_take {X : Sp} (o : OkS X) (k : Nat) : 0 ≤ fly (X.l.take k) ∧ fly (X.l.take k) ≤ 16776960 := by
  have h1 := fly_bd (l := X.l.take k) (fun p hp => by have := (o.log.good p (List.mem_of_mem_take hp)).1; exact ⟨by have := this.2.2.2.2.1; omega, this.2.2.2.2.2⟩)
  have h2 := o.log.len
  have h3 := o.log.room1.2
  have h4 := List.length_take_le' k X.l
  omega
theorem eli_take {X : Sp} (o : OkS X) (k : Nat) : 0 ≤ eli (X.l.take k) ∧ eli (X.l.take k) ≤ 256 := by
  have h1 := eli_bd (X.l.take k)
  have h2 := o.log.len
  have h3 := o.log.room1.2
  have h4 := List.length_take_le' k X.l
  omega
theorem spaceOnce_any {spaO : Nat → Sp → Ob} (H : SpaS spaO) (room : Int) (A0 : Option Addr) (n cp : Nat) (f : Nat → Nat → Int) (w : World) (h : Num.Grid 5 w A0 n cp f) : Calls Tryz.prog 4 #[.int .i64 room, .slice A0 n cp] w fun e w' => e = .returned (.bool true) ∧ Kept w w' := by
  have GH := Lib.hid h
  clear h
  have kr := Lib.hid (fun W => bring_any room 40 W (by decide) (by decide))
  have a0 := Int.emod_nonneg room (show (40 : Int) ≠ 0 by decide)
  have b0 := Int.emod_lt_of_pos room (show (0 : Int) < 40 by decide)
  generalize room % 40 = M0 at *
  obtain ⟨u, hu⟩ : ∃ u : Nat, 1 + M0 = (u : Int) := ⟨(1 + M0).toNat, by omega⟩
  have wu : IntKind.i64.wrap (1 + M0) = (u : Int) := by rw [hu]; exact IntWalk.i64_in _ (by omega)
  have hu1 : 1 ≤ u := by omega
  have hu2 : u ≤ 256 := by omega
  clear hu a0 b0
  have D : Hid (Sx w [] w) := Lib.hid (Sx.nil w)
  have k0 := Lib.hid (fun V (hV : Sx w [] V) => H.new hV u hu1 hu2)
  go_enter Tryz.func4, Tryz.ntmps4
  go_wp2_with fail
  refine (works_any H _).mono ?_
  rintro e v0 ⟨rfl, hk⟩
  have D : Hid (Sx w [] v0) := Lib.hid (D.out.on hk)
  clear hk
  go_wp2_with fail
  refine (kr.out _).mono ?_
  rintro e w' ⟨rfl, rfl⟩
  clear kr
  go_wp2_with fail
  refine (k0.out _ D.out).mono ?_
  rintro e v1 ⟨s, rfl, hb⟩
  have D : Hid (Sx w [spaO s (SpaM.new u)] v1) := Lib.hid hb
  clear hb k0 wu
  go_wp2_with fail
  have D := Lib.hid (run_new (s := s) D.out)
  generalize v1.alloc (.cells #[ptr s, .slice none 0 0, .slice none 0 0, .slice none 0 0, .int .i64 0, .int .i64 0] 57) = v2 at *
  generalize v1.heap.size = r at *
  go_loopw [8] (fun s8 wr => ∃ (i : Nat) (X : Sp) (S A B : List Int) (t : Int), i ≤ 60 ∧ s8 = .int .i64 i ∧ Hid (Rn X S A B [] t i) ∧ Hid (Sx w [runO r s S A B t, spaO s X] wr)) (fun s8 _ => 60 - (intOf s8).toNat)
  case atStart => exact ⟨0, SpaM.new u, [], [], [], 0, by omega, rfl, Lib.hid (Rn.new ⟨hu1, hu2⟩), D⟩
  case round =>
    obtain ⟨i, X, S, A, B, t, hi, rfl, HR, HD⟩ := hrel
    clear D hu1 hu2
    have D := HD
    clear HD
    by_cases hlt : i < n
    · have hi0 : (0 : Int) ≤ (i : Int) := by omega
      have hi1 : (i : Int) < (n : Int) := by omega
      by_cases h60 : i < 60
      · have hi2 : (i : Int) < 60 := by omega
        have hwi : IntKind.i64.wrap ((i : Int) + 1) = (i : Int) + 1 := IntWalk.i64_in _ (by omega)
        obtain ⟨g, o, rfl, hb, hc⟩ := GH.out.lies (by omega)
        have y0 := D.out.K.cell (hc i hlt 0 (by decide))
        have y1 := D.out.K.cell (hc i hlt 1 (by decide))
        have y2 := D.out.K.cell (hc i hlt 2 (by decide))
        have y3 := D.out.K.cell (hc i hlt 3 (by decide))
        have y4 := D.out.K.cell (hc i hlt 4 (by decide))
        clear hc
        simp only [Nat.add_zero] at y0
        obtain ⟨t2, ht2⟩ : ∃ t2, t + f i 1 % 1073741824 = t2 := ⟨_, rfl⟩
        have ks := Lib.hid (step_any H HR.out (by omega) (f i 0) (f i 1) (f i 2) (f i 3) (f i 4) ht2 rfl D.out.swap)
        clear ht2
        go_wp2_with fail
        refine ks.out.mono ?_
        rintro e v9 ⟨rfl, X2, S2, A2, B2, hR, _, _, hb⟩
        have D := Lib.hid hb.swap
        have HR2 := Lib.hid hR
        clear hb hR ks
        clear HR y0 y1 y2 y3 y4
        have HR := HR2
        have hri := rn_ri HR.out (by omega)
        have hAl : A2.length ≤ 1000 := by have h1 := hri.len; have h2 := HR.out.cnt; omega
        have hBl : B2.length ≤ 1000 := by have h1 := hri.len; have h2 := HR.out.cnt; omega
        have hXl : X2.l.length ≤ 256 := Nat.le_trans HR.out.ok.log.len HR.out.ok.log.room1.2
        clear hri
        obtain ⟨As2, cs2, Aa2, ca2, Ab2, cb2, hb⟩ := run_open D.out
        have D : Hid (Sx w [box r 57 #[ptr s, .slice As2 S2.length cs2, .slice Aa2 A2.length ca2, .slice Ab2 B2.length cb2, .int .i64 0, .int .i64 t2], inO As2 S2.length cs2 S2, inO Aa2 A2.length ca2 A2, inO Ab2 B2.length cb2 B2, spaO s X2] v9) := Lib.hid hb
        clear hb
        have Br := D.out.box_ 0 rfl
        have cr0 := Br.cell 0
        have cr1 := Br.cell 1
        have cr2 := Br.cell 2
        have cr3 := Br.cell 3
        have cr4 := Br.cell 4
        have cr5 := Br.cell 5
        have tr := Br.lt
        clear Br
        go_wp2_with fail
        clear cr0 cr1 cr2 cr3 cr4 cr5 tr
        refine (H.all HR.out.ok D.out 4 rfl).mono ?_
        rintro e v3 ⟨AL, cL, rfl, hb⟩
        have D : Hid (Sx w [pkO AL X2.l.length cL X2.l, box r 57 #[ptr s, .slice As2 S2.length cs2, .slice Aa2 A2.length ca2, .slice Ab2 B2.length cb2, .int .i64 0, .int .i64 t2], inO As2 S2.length cs2 S2, inO Aa2 A2.length ca2 A2, inO Ab2 B2.length cb2 B2, spaO s X2] v3) := Lib.hid hb
        clear hb
        go_wp2_with fail
        go_loopw [10, 11, 12] (fun s10 s11 s12 wx => ∃ (k : Nat) (F E : Int), k ≤ X2.l.length ∧ s10 = .int .i64 F ∧ s11 = .int .i64 E ∧ s12 = .int .i64 k ∧ Hid (F = fly (X2.l.take k)) ∧ Hid (E = eli (X2.l.take k)) ∧ Hid (Sx w [pkO AL X2.l.length cL X2.l, box r 57 #[ptr s, .slice As2 S2.length cs2, .slice Aa2 A2.length ca2, .slice Ab2 B2.length cb2, .int .i64 0, .int .i64 t2], inO As2 S2.length cs2 S2, inO Aa2 A2.length ca2 A2, inO Ab2 B2.length cb2 B2, spaO s X2] wx)) (fun _ _ s12 _ => X2.l.length - (intOf s12).toNat)
        case atStart => exact ⟨0, 0, 0, Nat.zero_le _, rfl, rfl, rfl, Lib.hid rfl, Lib.hid rfl, D⟩
        case round =>
          obtain ⟨k, F, E, hk, rfl, rfl, rfl, HF, HE, HD⟩ := hrel
          clear D
          have D := HD
          clear HD
          by_cases hkl : k < X2.l.length
          · have hj0 : (0 : Int) ≤ (k : Int) := by omega
            have hj1 : (k : Int) < (X2.l.length : Int) := by omega
            have hwj : IntKind.i64.wrap ((k : Int) + 1) = (k : Int) + 1 := IntWalk.i64_in _ (by omega)
            obtain ⟨g, rfl, hg⟩ := (pk_row D.out 0 rfl).some_ (by omega)
            have HC := Lib.hid (fun (U : World) (h : Sx w [pkO (some ⟨g, 0, none⟩) X2.l.length cL X2.l, box r 57 #[ptr s, .slice As2 S2.length cs2, .slice Aa2 A2.length ca2, .slice Ab2 B2.length cb2, .int .i64 0, .int .i64 t2], inO As2 S2.length cs2 S2, inO Aa2 A2.length ca2 A2, inO Ab2 B2.length cb2 B2, spaO s X2] U) => Snt.prow_cells (pk_row h 0 rfl) hkl)
            have q2 : (Cd.at_ X2.l k).n ∉ A2 := fun e => (HR.out.a _ e).2 _ (Cd.at_mem hkl) rfl
            have q3 : (Cd.at_ X2.l k).n ∉ B2 := fun e => (HR.out.b _ e).2 _ (Cd.at_mem hkl) rfl
            have hF := fly_next hkl
            have hE := eli_next hkl
            have bF := fly_take HR.out.ok (k + 1)
            have bE := eli_take HR.out.ok (k + 1)
            rw [← HF.out] at hF
            rw [← HE.out] at hE
            clear HF HE
            rcases hp : Cd.at_ X2.l k with ⟨x, tt, sz, ee, ff, cc⟩
            rw [hp] at HC q2 q3 hF hE
            clear hp
            simp only at HC q2 q3 hF hE
            obtain ⟨F1, hF1⟩ : ∃ F1, fly (X2.l.take (k + 1)) = F1 := ⟨_, rfl⟩
            obtain ⟨E1, hE1⟩ : ∃ E1, eli (X2.l.take (k + 1)) = E1 := ⟨_, rfl⟩
            rw [hF1] at hF bF
            rw [hE1] at hE bE
            have HF1 := Lib.hid hF1.symm
            have HE1 := Lib.hid hE1.symm
            clear hF1 hE1
            have S0 : Hid (∀ U, Sx w [pkO (some ⟨g, 0, none⟩) X2.l.length cL X2.l, box r 57 #[ptr s, .slice As2 S2.length cs2, .slice Aa2 A2.length ca2, .slice Ab2 B2.length cb2, .int .i64 0, .int .i64 t2], inO As2 S2.length cs2 S2, inO Aa2 A2.length ca2 A2, inO Ab2 B2.length cb2 B2, spaO s X2] U → U.cell? ⟨r, 2, none⟩ = some (.slice Aa2 A2.length ca2) ∧ U.cell? ⟨r, 3, none⟩ = some (.slice Ab2 B2.length cb2) ∧ U.cell? ⟨g, k * 6, none⟩ = some (.int .i64 x)) := Lib.hid (fun U h => ⟨(h.box_ 1 rfl).cell 2, (h.box_ 1 rfl).cell 3, (HC.out U h).1⟩)
            have kA : Hid (∀ U, Sx w [pkO (some ⟨g, 0, none⟩) X2.l.length cL X2.l, box r 57 #[ptr s, .slice As2 S2.length cs2, .slice Aa2 A2.length ca2, .slice Ab2 B2.length cb2, .int .i64 0, .int .i64 t2], inO As2 S2.length cs2 S2, inO Aa2 A2.length ca2 A2, inO Ab2 B2.length cb2 B2, spaO s X2] U → Calls Tryz.prog 29 #[.slice Aa2 A2.length ca2, .int .i64 x] U (Gets (.bool false) w [pkO (some ⟨g, 0, none⟩) X2.l.length cL X2.l, box r 57 #[ptr s, .slice As2 S2.length cs2, .slice Aa2 A2.length ca2, .slice Ab2 B2.length cb2, .int .i64 0, .int .i64 t2], inO As2 S2.length cs2 S2, inO Aa2 A2.length ca2 A2, inO Ab2 B2.length cb2 B2, spaO s X2])) := Lib.hid (fun U hU => by have := has_sx 3 hU rfl hAl x; rwa [inL_no q2] at this)
            have kB : Hid (∀ U, Sx w [pkO (some ⟨g, 0, none⟩) X2.l.length cL X2.l, box r 57 #[ptr s, .slice As2 S2.length cs2, .slice Aa2 A2.length ca2, .slice Ab2 B2.length cb2, .int .i64 0, .int .i64 t2], inO As2 S2.length cs2 S2, inO Aa2 A2.length ca2 A2, inO Ab2 B2.length cb2 B2, spaO s X2] U → Calls Tryz.prog 29 #[.slice Ab2 B2.length cb2, .int .i64 x] U (Gets (.bool false) w [pkO (some ⟨g, 0, none⟩) X2.l.length cL X2.l, box r 57 #[ptr s, .slice As2 S2.length cs2, .slice Aa2 A2.length ca2, .slice Ab2 B2.length cb2, .int .i64 0, .int .i64 t2], inO As2 S2.length cs2 S2, inO Aa2 A2.length ca2 A2, inO Ab2 B2.length cb2 B2, spaO s X2])) := Lib.hid (fun U hU => by have := has_sx 4 hU rfl hBl x; rwa [inL_no q3] at this)
            obtain ⟨y0, y1, y2, y3, y4, y5⟩ := HC.out _ D.out
            clear q2 q3 HC
            cases ff
            · obtain rfl : F1 = F := by simpa using hF
              obtain rfl : E1 = E := by simpa using hE
              clear bF bE hF hE
              have Br := D.out.box_ 1 rfl
              have cr0 := Br.cell 0
              have cr1 := Br.cell 1
              have cr2 := Br.cell 2
              have cr3 := Br.cell 3
              have cr4 := Br.cell 4
              have cr5 := Br.cell 5
              have tr := Br.lt
              clear Br
              go_upto_region 21 with (fail)
              clear cr0 cr1 cr2 cr3 cr4 cr5 tr
              clear y0 y1 y2 y3 y4 y5
              have D : Hid (Sx w [pkO (some ⟨g, 0, none⟩) X2.l.length cL X2.l, box r 57 #[ptr s, .slice As2 S2.length cs2, .slice Aa2 A2.length ca2, .slice Ab2 B2.length cb2, .int .i64 0, .int .i64 t2], inO As2 S2.length cs2 S2, inO Aa2 A2.length ca2 A2, inO Ab2 B2.length cb2 B2, spaO s X2] _) := Lib.hid (D.out.on (Kept.refl _).drew)
              go_region_held3 (fun U => U.cell? ⟨r, 2, none⟩ = some (.slice Aa2 A2.length ca2) ∧ U.cell? ⟨r, 3, none⟩ = some (.slice Ab2 B2.length cb2) ∧ U.cell? ⟨g, k * 6, none⟩ = some (.int .i64 x))
                (first | with_reducible exact S0.out _ D.out)
                (first
                  | (go_at_call 29; (with_reducible refine (kA.out _ D.out).mono ?_); rintro e w' ⟨rfl, hb⟩; have D := Lib.hid hb; clear hb)
                  | (go_at_call 29; (with_reducible refine (kB.out _ D.out).mono ?_); rintro e w' ⟨rfl, hb⟩; have D := Lib.hid hb; clear hb))
              go_wp2_with fail
              go_roundw
              case rel => exact ⟨k + 1, F1, E1, by omega, rfl, rfl, by go_num, HF1, HE1, D⟩
              case measure => simp [intOf]; omega
            · cases ee
              · have hF' : F + sz = F1 := by simpa using hF.symm
                have wF : IntKind.i64.wrap (F + sz) = F1 := by rw [hF']; exact IntWalk.i64_in _ (by omega)
                obtain rfl : E1 = E := by simpa using hE
                clear hF'
                clear bF bE hF hE
                have Br := D.out.box_ 1 rfl
                have cr0 := Br.cell 0
                have cr1 := Br.cell 1
                have cr2 := Br.cell 2
                have cr3 := Br.cell 3
                have cr4 := Br.cell 4
                have cr5 := Br.cell 5
                have tr := Br.lt
                clear Br
                go_upto_region 21 with (fail)
                clear cr0 cr1 cr2 cr3 cr4 cr5 tr
                clear y0 y1 y2 y3 y4 y5
                have D : Hid (Sx w [pkO (some ⟨g, 0, none⟩) X2.l.length cL X2.l, box r 57 #[ptr s, .slice As2 S2.length cs2, .slice Aa2 A2.length ca2, .slice Ab2 B2.length cb2, .int .i64 0, .int .i64 t2], inO As2 S2.length cs2 S2, inO Aa2 A2.length ca2 A2, inO Ab2 B2.length cb2 B2, spaO s X2] _) := Lib.hid (D.out.on (Kept.refl _).drew)
                go_region_held3 (fun U => U.cell? ⟨r, 2, none⟩ = some (.slice Aa2 A2.length ca2) ∧ U.cell? ⟨r, 3, none⟩ = some (.slice Ab2 B2.length cb2) ∧ U.cell? ⟨g, k * 6, none⟩ = some (.int .i64 x))
                  (first | with_reducible exact S0.out _ D.out)
                  (first
                    | (go_at_call 29; (with_reducible refine (kA.out _ D.out).mono ?_); rintro e w' ⟨rfl, hb⟩; have D := Lib.hid hb; clear hb)
                    | (go_at_call 29; (with_reducible refine (kB.out _ D.out).mono ?_); rintro e w' ⟨rfl, hb⟩; have D := Lib.hid hb; clear hb))
                go_wp2_with fail
                go_roundw
                case rel => exact ⟨k + 1, F1, E1, by omega, rfl, rfl, by go_num, HF1, HE1, D⟩
                case measure => simp [intOf]; omega
              · have hF' : F + sz = F1 := by simpa using hF.symm
                have wF : IntKind.i64.wrap (F + sz) = F1 := by rw [hF']; exact IntWalk.i64_in _ (by omega)
                have hE' : E + 1 = E1 := by simpa using hE.symm
                have wE : IntKind.i64.wrap (E + 1) = E1 := by rw [hE']; exact IntWalk.i64_in _ (by omega)
                clear hE'
                clear hF'
                clear bF bE hF hE
                have Br := D.out.box_ 1 rfl
                have cr0 := Br.cell 0
                have cr1 := Br.cell 1
                have cr2 := Br.cell 2
                have cr3 := Br.cell 3
                have cr4 := Br.cell 4
                have cr5 := Br.cell 5
                have tr := Br.lt
                clear Br
                go_upto_region 21 with (fail)
                clear cr0 cr1 cr2 cr3 cr4 cr5 tr
                clear y0 y1 y2 y3 y4 y5
                have D : Hid (Sx w [pkO (some ⟨g, 0, none⟩) X2.l.length cL X2.l, box r 57 #[ptr s, .slice As2 S2.length cs2, .slice Aa2 A2.length ca2, .slice Ab2 B2.length cb2, .int .i64 0, .int .i64 t2], inO As2 S2.length cs2 S2, inO Aa2 A2.length ca2 A2, inO Ab2 B2.length cb2 B2, spaO s X2] _) := Lib.hid (D.out.on (Kept.refl _).drew)
                go_region_held3 (fun U => U.cell? ⟨r, 2, none⟩ = some (.slice Aa2 A2.length ca2) ∧ U.cell? ⟨r, 3, none⟩ = some (.slice Ab2 B2.length cb2) ∧ U.cell? ⟨g, k * 6, none⟩ = some (.int .i64 x))
                  (first | with_reducible exact S0.out _ D.out)
                  (first
                    | (go_at_call 29; (with_reducible refine (kA.out _ D.out).mono ?_); rintro e w' ⟨rfl, hb⟩; have D := Lib.hid hb; clear hb)
                    | (go_at_call 29; (with_reducible refine (kB.out _ D.out).mono ?_); rintro e w' ⟨rfl, hb⟩; have D := Lib.hid hb; clear hb))
                go_wp2_with fail
                go_roundw
                case rel => exact ⟨k + 1, F1, E1, by omega, rfl, rfl, by go_num, HF1, HE1, D⟩
                case measure => simp [intOf]; omega
          · have hj1 : ¬ (k : Int) < (X2.l.length : Int) := by omega
            have hkk : k = X2.l.length := by omega
            have hF : F = fly X2.l := by rw [HF.out, hkk, List.take_length]
            have hE : E = eli X2.l := by rw [HE.out, hkk, List.take_length]
            have kF : Hid (∀ U, Sx w [pkO AL X2.l.length cL X2.l, box r 57 #[ptr s, .slice As2 S2.length cs2, .slice Aa2 A2.length ca2, .slice Ab2 B2.length cb2, .int .i64 0, .int .i64 t2], inO As2 S2.length cs2 S2, inO Aa2 A2.length ca2 A2, inO Ab2 B2.length cb2 B2, spaO s X2] U → Calls Tryz.prog 30 #[ptr s] U (Gets (.int .i64 F) w [pkO AL X2.l.length cL X2.l, box r 57 #[ptr s, .slice As2 S2.length cs2, .slice Aa2 A2.length ca2, .slice Ab2 B2.length cb2, .int .i64 0, .int .i64 t2], inO As2 S2.length cs2 S2, inO Aa2 A2.length ca2 A2, inO Ab2 B2.length cb2 B2, spaO s X2])) := Lib.hid (fun U hU => by rw [hF]; exact (H.flight s X2 HR.out.ok).at_ hU 5 rfl)
            have kE : Hid (∀ U, Sx w [pkO AL X2.l.length cL X2.l, box r 57 #[ptr s, .slice As2 S2.length cs2, .slice Aa2 A2.length ca2, .slice Ab2 B2.length cb2, .int .i64 0, .int .i64 t2], inO As2 S2.length cs2 S2, inO Aa2 A2.length ca2 A2, inO Ab2 B2.length cb2 B2, spaO s X2] U → Calls Tryz.prog 31 #[ptr s] U (Gets (.int .i64 E) w [pkO AL X2.l.length cL X2.l, box r 57 #[ptr s, .slice As2 S2.length cs2, .slice Aa2 A2.length ca2, .slice Ab2 B2.length cb2, .int .i64 0, .int .i64 t2], inO As2 S2.length cs2 S2, inO Aa2 A2.length ca2 A2, inO Ab2 B2.length cb2 B2, spaO s X2])) := Lib.hid (fun U hU => by rw [hE]; exact (H.eliciting s X2 HR.out.ok).at_ hU 5 rfl)
            have S0 : Hid (∀ U, Sx w [pkO AL X2.l.length cL X2.l, box r 57 #[ptr s, .slice As2 S2.length cs2, .slice Aa2 A2.length ca2, .slice Ab2 B2.length cb2, .int .i64 0, .int .i64 t2], inO As2 S2.length cs2 S2, inO Aa2 A2.length ca2 A2, inO Ab2 B2.length cb2 B2, spaO s X2] U → U.cell? ⟨r, 0, none⟩ = some (ptr s) ∧ U.cell? ⟨r, 1, none⟩ = some (.slice As2 S2.length cs2) ∧ U.cell? ⟨r, 2, none⟩ = some (.slice Aa2 A2.length ca2) ∧ U.cell? ⟨r, 3, none⟩ = some (.slice Ab2 B2.length cb2)) := Lib.hid (fun U h => ⟨(h.box_ 1 rfl).cell 0, (h.box_ 1 rfl).cell 1, (h.box_ 1 rfl).cell 2, (h.box_ 1 rfl).cell 3⟩)
            have hcnt := HR.out.cnt
            rw [List.length_nil, Nat.add_zero] at hcnt
            obtain ⟨z1, hz1⟩ : ∃ z1, (X2.l.length : Int) + (A2.length : Int) = z1 := ⟨_, rfl⟩
            have w1 : IntKind.i64.wrap ((X2.l.length : Int) + (A2.length : Int)) = z1 := by rw [hz1]; exact IntWalk.i64_in _ (by omega)
            have w2 : IntKind.i64.wrap (z1 + (B2.length : Int)) = (S2.length : Int) := by rw [show z1 + (B2.length : Int) = (S2.length : Int) by omega]; exact IntWalk.i64_in _ (by omega)
            clear hcnt hz1 hF hE HF HE hkk
            have Br := D.out.box_ 1 rfl
            have cr0 := Br.cell 0
            have cr1 := Br.cell 1
            have cr2 := Br.cell 2
            have cr3 := Br.cell 3
            have cr4 := Br.cell 4
            have cr5 := Br.cell 5
            have tr := Br.lt
            clear Br
            go_upto_region 23 with (fail)
            clear cr0 cr1 cr2 cr3 cr4 cr5 tr
            have D : Hid (Sx w [pkO AL X2.l.length cL X2.l, box r 57 #[ptr s, .slice As2 S2.length cs2, .slice Aa2 A2.length ca2, .slice Ab2 B2.length cb2, .int .i64 0, .int .i64 t2], inO As2 S2.length cs2 S2, inO Aa2 A2.length ca2 A2, inO Ab2 B2.length cb2 B2, spaO s X2] _) := Lib.hid (D.out.on (Kept.refl _).drew)
            go_region_held3 (fun U => U.cell? ⟨r, 0, none⟩ = some (ptr s) ∧ U.cell? ⟨r, 1, none⟩ = some (.slice As2 S2.length cs2) ∧ U.cell? ⟨r, 2, none⟩ = some (.slice Aa2 A2.length ca2) ∧ U.cell? ⟨r, 3, none⟩ = some (.slice Ab2 B2.length cb2))
              (first | with_reducible exact S0.out _ D.out)
              (first
                | (go_at_call 30; (with_reducible refine (kF.out _ D.out).mono ?_); rintro e w' ⟨rfl, hb⟩; have D := Lib.hid hb; clear hb)
                | (go_at_call 31; (with_reducible refine (kE.out _ D.out).mono ?_); rintro e w' ⟨rfl, hb⟩; have D := Lib.hid hb; clear hb))
            go_wp2_with fail
            go_roundw
            case rel => exact ⟨i + 1, X2, S2, A2, B2, t2, by omega, by go_num, HR, Lib.hid (run_shut (D.out.sel 6 [1, 2, 3, 4, 5] [0] (by decide)))⟩
            case measure => simp [intOf]; omega
      · have hi2 : ¬ (i : Int) < 60 := by omega
        go_wp2_with fail
        go_ret
        exact ⟨rfl, D.out.K⟩
    · have hi1 : ¬ (i : Int) < (n : Int) := by omega
      go_wp2_with fail
      go_ret
      exact ⟨rfl, D.out.K⟩
end Go.Proofs.YtilkgjpgoogiiaaGreat.Spa
