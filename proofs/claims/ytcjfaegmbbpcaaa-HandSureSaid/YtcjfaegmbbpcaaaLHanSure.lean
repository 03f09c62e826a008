/-
  The walk of the law HandSure of layer 16.
-/
import Derived.Test.YtcjfaegmbbpcaaaHanK
namespace Go.Proofs.Ytcjfaegmbbpcaaa.Han
open Go.RowKit HanM Wd Bxs Obs Ths
set_option linter.unusedVariables false
set_option linter.unusedSimpArgs false

set_option maxRecDepth 100000 in
set_option maxHeartbeats 8000000 in
theorem handSure_any (A : Option Addr) (n c : Nat) (f : Nat → Nat → Int) (w : World) (h : Num.Grid 2 w A n c f) : Calls Try.prog 7 #[.slice A n c] w fun e w' => e = .returned (.bool true) ∧ Kept w w' := by
  have GK := Lib.hid h
  have hn : n ≤ maxLen := Nat.le_trans h.cap h.most
  unfold maxLen at hn
  clear h
  have D : Hid (Sx w [] w) := Lib.hid (Sx.nil w)
  go_enter Try.func7, Try.ntmps7
  go_wp2_with fail
  refine (new_sx D.out false).mono ?_
  rintro e v1 ⟨p, rfl, hb⟩
  have D : Hid (Sx w [handO p (pl false (cl f) 0)] v1) := Lib.hid hb
  clear hb
  go_wp2_with fail
  refine (new_sx D.out true).mono ?_
  rintro e v2 ⟨q, rfl, hb⟩
  have D : Hid (Sx w [handO q (pl true (cl f) 0), handO p (pl false (cl f) 0)] v2) := Lib.hid hb
  clear hb
  go_wp2_with fail
  go_loopw [5, 6] (fun s5 s6 wr => ∃ i : Nat, i ≤ n ∧ i ≤ 60 ∧ s5 = .bool (sure (pl false (cl f) i)) ∧ s6 = .int .i64 i ∧ Hid (Sx w [handO q (pl true (cl f) i), handO p (pl false (cl f) i)] wr)) (fun _ s6 _ => 60 - (intOf s6).toNat)
  case atStart => exact ⟨0, Nat.zero_le _, Nat.zero_le _, rfl, rfl, D⟩
  case round =>
    obtain ⟨i, hin, hi6, rfl, rfl, HD⟩ := hrel
    clear D
    have D := HD
    clear HD
    by_cases hlt : i < n
    · by_cases h60 : i < 60
      · have hi0 : (0 : Int) ≤ (i : Int) := by omega
        have hi1 : (i : Int) < (n : Int) := by omega
        have hi2 : (i : Int) < 60 := by omega
        have hwi : IntKind.i64.wrap ((i : Int) + 1) = (i : Int) + 1 := IntWalk.i64_in _ (by omega)
        obtain ⟨b, o, rfl, hb, hc⟩ := GK.out.lies (by omega)
        have H0 := Lib.hid (cell_do hc hlt).1
        have H1 := Lib.hid (cell_do hc hlt).2
        clear hc hb
        have kc1 : Hid (∀ U, Sx w [handO q (pl true (cl f) i), handO p (pl false (cl f) i)] U → Calls Try.prog 20 #[ptr p, .agg #[.int .i64 (f i 0), .int .i64 (f i 1)]] U (Gets (.int .i64 (callE (pl false (cl f) i) (f i 0 % 6) (f i 1 % 3))) w [handO q (pl true (cl f) i), handO p (pl false (cl f) (i + 1))])) := Lib.hid (fun U hU => call_sx hU 1 rfl (pl_good false (cl f) i) (f i 0) (f i 1))
        have kc2 : Hid (∀ U, Sx w [handO q (pl true (cl f) i), handO p (pl false (cl f) (i + 1))] U → Calls Try.prog 20 #[ptr q, .agg #[.int .i64 (f i 0), .int .i64 (f i 1)]] U (Gets (.int .i64 (callE (pl true (cl f) i) (f i 0 % 6) (f i 1 % 3))) w [handO q (pl true (cl f) (i + 1)), handO p (pl false (cl f) (i + 1))])) := Lib.hid (fun U hU => call_sx hU 0 rfl (pl_good true (cl f) i) (f i 0) (f i 1))
        have hst : sure (pl false (cl f) (i + 1)) = (sure (pl false (cl f) i) || ((decide (f i 0 % 6 = 5) && (decide (0 < f i 1 % 3) && lives (pl false (cl f) i) (f i 1 % 3))) || (decide (f i 0 % 6 = 4) && lives (pl false (cl f) i) 2))) := sure_step (cl_kd f i) (cl_sp f i) (pl_s false (cl f) i)
        have hsv : sure (pl true (cl f) (i + 1)) = true := sure_server (pl_s true (cl f) (i + 1))
        have hvl : (pl false (cl f) (i + 1)).v = true := pl_client_v (cl f) (i + 1)
        have hcc : (pl true (cl f) (i + 1)).c = (pl false (cl f) (i + 1)).c := (pl_both (fun k => cl_sp f k) (i + 1)).2.2
        have kl1 := Lib.hid (fun (U : World) (hU : Sx w [handO q (pl true (cl f) i), handO p (pl false (cl f) i)] U) => lives_sx hU 1 rfl (pl_good false (cl f) i) (f i 1 % 3))
        have kl2 := Lib.hid (fun (U : World) (hU : Sx w [handO q (pl true (cl f) i), handO p (pl false (cl f) i)] U) => lives_sx hU 1 rfl (pl_good false (cl f) i) 2)
        have k1 := Lib.hid (fun (U : World) (hU : Sx w [handO q (pl true (cl f) (i + 1)), handO p (pl false (cl f) (i + 1))] U) => sure_sx hU 1 rfl)
        have k2 := Lib.hid (fun (U : World) (hU : Sx w [handO q (pl true (cl f) (i + 1)), handO p (pl false (cl f) (i + 1))] U) => sure_sx hU 0 rfl)
        have k3 := Lib.hid (fun (U : World) (hU : Sx w [handO q (pl true (cl f) (i + 1)), handO p (pl false (cl f) (i + 1))] U) => valid_sx hU 1 rfl)
        have k4 := Lib.hid (fun (U : World) (hU : Sx w [handO q (pl true (cl f) (i + 1)), handO p (pl false (cl f) (i + 1))] U) => confirmed_sx hU 1 rfl)
        have k5 := Lib.hid (fun (U : World) (hU : Sx w [handO q (pl true (cl f) (i + 1)), handO p (pl false (cl f) (i + 1))] U) => confirmed_sx hU 0 rfl)
        simp only [hsv, hvl, hcc] at k2 k3 k5
        have kb1 := Lib.hid (fun W => bring_any (f i 1) 3 W (by decide) (by decide))
        have kb2 := Lib.hid (fun W => bring_any (f i 0) 6 W (by decide) (by decide))
        clear hsv hvl hcc
        obtain ⟨U', hU'⟩ : ∃ U', sure (pl false (cl f) (i + 1)) = U' := ⟨_, rfl⟩
        have HU := Lib.hid hU'
        rw [hU'] at hst
        simp only [hU'] at k1
        clear hU'
        generalize (pl false (cl f) (i + 1)).c = cc at *
        generalize callE (pl false (cl f) i) (f i 0 % 6) (f i 1 % 3) = E1 at *
        generalize callE (pl true (cl f) i) (f i 0 % 6) (f i 1 % 3) = E2 at *
        generalize sure (pl false (cl f) i) = u at *
        generalize lives (pl false (cl f) i) (f i 1 % 3) = lv at *
        generalize lives (pl false (cl f) i) 2 = la at *
        have hSd : 0 ≤ f i 1 % 3 := Int.emod_nonneg _ (by decide)
        generalize f i 0 % 6 = Kd at *
        generalize f i 1 % 3 = Sd at *
        cases u
        · by_cases e5 : Kd = 5
          · have hz4 : (Kd == 4) = false := by subst e5; rfl
            subst e5
            by_cases hs : 0 < Sd
            · have ds : decide (0 < Sd) = true := decide_eq_true hs
              rw [ds] at hst
              cases lv
              · obtain rfl : U' = false := by rw [hst]; simp
                clear hst
                have y1 := D.out.K.cell H1.out
                go_wp2_with fail
                refine (kb1.out _).mono ?_
                rintro e w' ⟨rfl, rfl⟩
                clear y1
                go_wp2_with fail
                refine (kl1.out _ D.out).mono ?_
                rintro e v129 ⟨rfl, hb⟩
                have D := Lib.hid hb
                clear hb
                go_wp2_with fail
                refine (kl2.out _ D.out).mono ?_
                rintro e v130 ⟨rfl, hb⟩
                have D := Lib.hid hb
                clear hb
                have y0 := D.out.K.cell H0.out
                go_wp2_with fail
                refine (kb2.out _).mono ?_
                rintro e w' ⟨rfl, rfl⟩
                have y1 := D.out.K.cell H1.out
                go_wp2_with fail
                refine (kc1.out _ D.out).mono ?_
                rintro e v131 ⟨rfl, hb⟩
                have D := Lib.hid hb
                clear hb
                clear y0 y1
                have y0 := D.out.K.cell H0.out
                have y1 := D.out.K.cell H1.out
                go_wp2_with fail
                refine (kc2.out _ D.out).mono ?_
                rintro e v132 ⟨rfl, hb⟩
                have D := Lib.hid hb
                clear hb
                clear y0 y1
                go_wp2_with fail
                refine (k1.out _ D.out).mono ?_
                rintro e v133 ⟨rfl, hb⟩
                have D := Lib.hid hb
                clear hb
                go_wp2_with fail
                refine (k2.out _ D.out).mono ?_
                rintro e v134 ⟨rfl, hb⟩
                have D := Lib.hid hb
                clear hb
                go_wp2_with fail
                refine (k3.out _ D.out).mono ?_
                rintro e v135 ⟨rfl, hb⟩
                have D := Lib.hid hb
                clear hb
                go_wp2_with fail
                refine (k4.out _ D.out).mono ?_
                rintro e v136 ⟨rfl, hb⟩
                have D := Lib.hid hb
                clear hb
                go_wp2_with fail
                refine (k5.out _ D.out).mono ?_
                rintro e v137 ⟨rfl, hb⟩
                have D := Lib.hid hb
                clear hb
                go_wp2_with fail
                go_roundw
                case rel => exact ⟨i + 1, by omega, by omega, by rw [HU.out], by go_num, D⟩
                case measure => simp [intOf]; omega
              · obtain rfl : U' = true := by rw [hst]; simp
                clear hst
                have y1 := D.out.K.cell H1.out
                go_wp2_with fail
                refine (kb1.out _).mono ?_
                rintro e w' ⟨rfl, rfl⟩
                clear y1
                go_wp2_with fail
                refine (kl1.out _ D.out).mono ?_
                rintro e v138 ⟨rfl, hb⟩
                have D := Lib.hid hb
                clear hb
                go_wp2_with fail
                refine (kl2.out _ D.out).mono ?_
                rintro e v139 ⟨rfl, hb⟩
                have D := Lib.hid hb
                clear hb
                have y0 := D.out.K.cell H0.out
                go_wp2_with fail
                refine (kb2.out _).mono ?_
                rintro e w' ⟨rfl, rfl⟩
                have y1 := D.out.K.cell H1.out
                go_wp2_with fail
                refine (kc1.out _ D.out).mono ?_
                rintro e v140 ⟨rfl, hb⟩
                have D := Lib.hid hb
                clear hb
                clear y0 y1
                have y0 := D.out.K.cell H0.out
                have y1 := D.out.K.cell H1.out
                go_wp2_with fail
                refine (kc2.out _ D.out).mono ?_
                rintro e v141 ⟨rfl, hb⟩
                have D := Lib.hid hb
                clear hb
                clear y0 y1
                go_wp2_with fail
                refine (k1.out _ D.out).mono ?_
                rintro e v142 ⟨rfl, hb⟩
                have D := Lib.hid hb
                clear hb
                go_wp2_with fail
                refine (k2.out _ D.out).mono ?_
                rintro e v143 ⟨rfl, hb⟩
                have D := Lib.hid hb
                clear hb
                go_wp2_with fail
                refine (k3.out _ D.out).mono ?_
                rintro e v144 ⟨rfl, hb⟩
                have D := Lib.hid hb
                clear hb
                go_wp2_with fail
                refine (k4.out _ D.out).mono ?_
                rintro e v145 ⟨rfl, hb⟩
                have D := Lib.hid hb
                clear hb
                go_wp2_with fail
                refine (k5.out _ D.out).mono ?_
                rintro e v146 ⟨rfl, hb⟩
                have D := Lib.hid hb
                clear hb
                go_wp2_with fail
                go_roundw
                case rel => exact ⟨i + 1, by omega, by omega, by rw [HU.out], by go_num, D⟩
                case measure => simp [intOf]; omega
            · have ds : decide (0 < Sd) = false := decide_eq_false hs
              rw [ds] at hst
              obtain rfl : U' = false := by rw [hst]; simp
              clear hst
              have y1 := D.out.K.cell H1.out
              go_wp2_with fail
              refine (kb1.out _).mono ?_
              rintro e w' ⟨rfl, rfl⟩
              clear y1
              go_wp2_with fail
              refine (kl1.out _ D.out).mono ?_
              rintro e v147 ⟨rfl, hb⟩
              have D := Lib.hid hb
              clear hb
              go_wp2_with fail
              refine (kl2.out _ D.out).mono ?_
              rintro e v148 ⟨rfl, hb⟩
              have D := Lib.hid hb
              clear hb
              have y0 := D.out.K.cell H0.out
              go_wp2_with fail
              refine (kb2.out _).mono ?_
              rintro e w' ⟨rfl, rfl⟩
              have y1 := D.out.K.cell H1.out
              go_wp2_with fail
              refine (kc1.out _ D.out).mono ?_
              rintro e v149 ⟨rfl, hb⟩
              have D := Lib.hid hb
              clear hb
              clear y0 y1
              have y0 := D.out.K.cell H0.out
              have y1 := D.out.K.cell H1.out
              go_wp2_with fail
              refine (kc2.out _ D.out).mono ?_
              rintro e v150 ⟨rfl, hb⟩
              have D := Lib.hid hb
              clear hb
              clear y0 y1
              go_wp2_with fail
              refine (k1.out _ D.out).mono ?_
              rintro e v151 ⟨rfl, hb⟩
              have D := Lib.hid hb
              clear hb
              go_wp2_with fail
              refine (k2.out _ D.out).mono ?_
              rintro e v152 ⟨rfl, hb⟩
              have D := Lib.hid hb
              clear hb
              go_wp2_with fail
              refine (k3.out _ D.out).mono ?_
              rintro e v153 ⟨rfl, hb⟩
              have D := Lib.hid hb
              clear hb
              go_wp2_with fail
              refine (k4.out _ D.out).mono ?_
              rintro e v154 ⟨rfl, hb⟩
              have D := Lib.hid hb
              clear hb
              go_wp2_with fail
              refine (k5.out _ D.out).mono ?_
              rintro e v155 ⟨rfl, hb⟩
              have D := Lib.hid hb
              clear hb
              go_wp2_with fail
              go_roundw
              case rel => exact ⟨i + 1, by omega, by omega, by rw [HU.out], by go_num, D⟩
              case measure => simp [intOf]; omega
          · by_cases e4 : Kd = 4
            · have hz5 : (Kd == 5) = false := by subst e4; rfl
              subst e4
              cases la
              · obtain rfl : U' = false := by rw [hst]; simp
                clear hst
                have y1 := D.out.K.cell H1.out
                go_wp2_with fail
                refine (kb1.out _).mono ?_
                rintro e w' ⟨rfl, rfl⟩
                clear y1
                go_wp2_with fail
                refine (kl1.out _ D.out).mono ?_
                rintro e v156 ⟨rfl, hb⟩
                have D := Lib.hid hb
                clear hb
                go_wp2_with fail
                refine (kl2.out _ D.out).mono ?_
                rintro e v157 ⟨rfl, hb⟩
                have D := Lib.hid hb
                clear hb
                have y0 := D.out.K.cell H0.out
                go_wp2_with fail
                refine (kb2.out _).mono ?_
                rintro e w' ⟨rfl, rfl⟩
                have y1 := D.out.K.cell H1.out
                go_wp2_with fail
                refine (kc1.out _ D.out).mono ?_
                rintro e v158 ⟨rfl, hb⟩
                have D := Lib.hid hb
                clear hb
                clear y0 y1
                have y0 := D.out.K.cell H0.out
                have y1 := D.out.K.cell H1.out
                go_wp2_with fail
                refine (kc2.out _ D.out).mono ?_
                rintro e v159 ⟨rfl, hb⟩
                have D := Lib.hid hb
                clear hb
                clear y0 y1
                go_wp2_with fail
                refine (k1.out _ D.out).mono ?_
                rintro e v160 ⟨rfl, hb⟩
                have D := Lib.hid hb
                clear hb
                go_wp2_with fail
                refine (k2.out _ D.out).mono ?_
                rintro e v161 ⟨rfl, hb⟩
                have D := Lib.hid hb
                clear hb
                go_wp2_with fail
                refine (k3.out _ D.out).mono ?_
                rintro e v162 ⟨rfl, hb⟩
                have D := Lib.hid hb
                clear hb
                go_wp2_with fail
                refine (k4.out _ D.out).mono ?_
                rintro e v163 ⟨rfl, hb⟩
                have D := Lib.hid hb
                clear hb
                go_wp2_with fail
                refine (k5.out _ D.out).mono ?_
                rintro e v164 ⟨rfl, hb⟩
                have D := Lib.hid hb
                clear hb
                go_wp2_with fail
                go_roundw
                case rel => exact ⟨i + 1, by omega, by omega, by rw [HU.out], by go_num, D⟩
                case measure => simp [intOf]; omega
              · obtain rfl : U' = true := by rw [hst]; simp
                clear hst
                have y1 := D.out.K.cell H1.out
                go_wp2_with fail
                refine (kb1.out _).mono ?_
                rintro e w' ⟨rfl, rfl⟩
                clear y1
                go_wp2_with fail
                refine (kl1.out _ D.out).mono ?_
                rintro e v165 ⟨rfl, hb⟩
                have D := Lib.hid hb
                clear hb
                go_wp2_with fail
                refine (kl2.out _ D.out).mono ?_
                rintro e v166 ⟨rfl, hb⟩
                have D := Lib.hid hb
                clear hb
                have y0 := D.out.K.cell H0.out
                go_wp2_with fail
                refine (kb2.out _).mono ?_
                rintro e w' ⟨rfl, rfl⟩
                have y1 := D.out.K.cell H1.out
                go_wp2_with fail
                refine (kc1.out _ D.out).mono ?_
                rintro e v167 ⟨rfl, hb⟩
                have D := Lib.hid hb
                clear hb
                clear y0 y1
                have y0 := D.out.K.cell H0.out
                have y1 := D.out.K.cell H1.out
                go_wp2_with fail
                refine (kc2.out _ D.out).mono ?_
                rintro e v168 ⟨rfl, hb⟩
                have D := Lib.hid hb
                clear hb
                clear y0 y1
                go_wp2_with fail
                refine (k1.out _ D.out).mono ?_
                rintro e v169 ⟨rfl, hb⟩
                have D := Lib.hid hb
                clear hb
                go_wp2_with fail
                refine (k2.out _ D.out).mono ?_
                rintro e v170 ⟨rfl, hb⟩
                have D := Lib.hid hb
                clear hb
                go_wp2_with fail
                refine (k3.out _ D.out).mono ?_
                rintro e v171 ⟨rfl, hb⟩
                have D := Lib.hid hb
                clear hb
                go_wp2_with fail
                refine (k4.out _ D.out).mono ?_
                rintro e v172 ⟨rfl, hb⟩
                have D := Lib.hid hb
                clear hb
                go_wp2_with fail
                refine (k5.out _ D.out).mono ?_
                rintro e v173 ⟨rfl, hb⟩
                have D := Lib.hid hb
                clear hb
                go_wp2_with fail
                go_roundw
                case rel => exact ⟨i + 1, by omega, by omega, by rw [HU.out], by go_num, D⟩
                case measure => simp [intOf]; omega
            · have hz5 : (Kd == 5) = false := by simp [e5]
              have hz4 : (Kd == 4) = false := by simp [e4]
              have d5 : decide (Kd = 5) = false := decide_eq_false e5
              have d4 : decide (Kd = 4) = false := decide_eq_false e4
              rw [d5, d4] at hst
              clear e5 e4 d5 d4
              obtain rfl : U' = false := by rw [hst]; simp
              clear hst
              have y1 := D.out.K.cell H1.out
              go_wp2_with fail
              refine (kb1.out _).mono ?_
              rintro e w' ⟨rfl, rfl⟩
              clear y1
              go_wp2_with fail
              refine (kl1.out _ D.out).mono ?_
              rintro e v174 ⟨rfl, hb⟩
              have D := Lib.hid hb
              clear hb
              go_wp2_with fail
              refine (kl2.out _ D.out).mono ?_
              rintro e v175 ⟨rfl, hb⟩
              have D := Lib.hid hb
              clear hb
              have y0 := D.out.K.cell H0.out
              go_wp2_with fail
              refine (kb2.out _).mono ?_
              rintro e w' ⟨rfl, rfl⟩
              have y1 := D.out.K.cell H1.out
              go_wp2_with fail
              refine (kc1.out _ D.out).mono ?_
              rintro e v176 ⟨rfl, hb⟩
              have D := Lib.hid hb
              clear hb
              clear y0 y1
              have y0 := D.out.K.cell H0.out
              have y1 := D.out.K.cell H1.out
              go_wp2_with fail
              refine (kc2.out _ D.out).mono ?_
              rintro e v177 ⟨rfl, hb⟩
              have D := Lib.hid hb
              clear hb
              clear y0 y1
              go_wp2_with fail
              refine (k1.out _ D.out).mono ?_
              rintro e v178 ⟨rfl, hb⟩
              have D := Lib.hid hb
              clear hb
              go_wp2_with fail
              refine (k2.out _ D.out).mono ?_
              rintro e v179 ⟨rfl, hb⟩
              have D := Lib.hid hb
              clear hb
              go_wp2_with fail
              refine (k3.out _ D.out).mono ?_
              rintro e v180 ⟨rfl, hb⟩
              have D := Lib.hid hb
              clear hb
              go_wp2_with fail
              refine (k4.out _ D.out).mono ?_
              rintro e v181 ⟨rfl, hb⟩
              have D := Lib.hid hb
              clear hb
              go_wp2_with fail
              refine (k5.out _ D.out).mono ?_
              rintro e v182 ⟨rfl, hb⟩
              have D := Lib.hid hb
              clear hb
              go_wp2_with fail
              go_roundw
              case rel => exact ⟨i + 1, by omega, by omega, by rw [HU.out], by go_num, D⟩
              case measure => simp [intOf]; omega
        · obtain rfl : U' = true := by rw [hst]; simp
          clear hst
          have y1 := D.out.K.cell H1.out
          go_wp2_with fail
          refine (kb1.out _).mono ?_
          rintro e w' ⟨rfl, rfl⟩
          clear y1
          go_wp2_with fail
          refine (kl1.out _ D.out).mono ?_
          rintro e v183 ⟨rfl, hb⟩
          have D := Lib.hid hb
          clear hb
          go_wp2_with fail
          refine (kl2.out _ D.out).mono ?_
          rintro e v184 ⟨rfl, hb⟩
          have D := Lib.hid hb
          clear hb
          have y0 := D.out.K.cell H0.out
          go_wp2_with fail
          refine (kb2.out _).mono ?_
          rintro e w' ⟨rfl, rfl⟩
          have y1 := D.out.K.cell H1.out
          go_wp2_with fail
          refine (kc1.out _ D.out).mono ?_
          rintro e v185 ⟨rfl, hb⟩
          have D := Lib.hid hb
          clear hb
          clear y0 y1
          have y0 := D.out.K.cell H0.out
          have y1 := D.out.K.cell H1.out
          go_wp2_with fail
          refine (kc2.out _ D.out).mono ?_
          rintro e v186 ⟨rfl, hb⟩
          have D := Lib.hid hb
          clear hb
          clear y0 y1
          go_wp2_with fail
          refine (k1.out _ D.out).mono ?_
          rintro e v187 ⟨rfl, hb⟩
          have D := Lib.hid hb
          clear hb
          go_wp2_with fail
          refine (k2.out _ D.out).mono ?_
          rintro e v188 ⟨rfl, hb⟩
          have D := Lib.hid hb
          clear hb
          go_wp2_with fail
          refine (k3.out _ D.out).mono ?_
          rintro e v189 ⟨rfl, hb⟩
          have D := Lib.hid hb
          clear hb
          go_wp2_with fail
          refine (k4.out _ D.out).mono ?_
          rintro e v190 ⟨rfl, hb⟩
          have D := Lib.hid hb
          clear hb
          go_wp2_with fail
          refine (k5.out _ D.out).mono ?_
          rintro e v191 ⟨rfl, hb⟩
          have D := Lib.hid hb
          clear hb
          go_wp2_with fail
          go_roundw
          case rel => exact ⟨i + 1, by omega, by omega, by rw [HU.out], by go_num, D⟩
          case measure => simp [intOf]; omega
      · have hi1 : (i : Int) < (n : Int) := by omega
        have hi2 : ¬ (i : Int) < 60 := by omega
        generalize sure (pl false (cl f) i) = u at *
        go_wp2_with fail
        refine (works_any _).mono ?_
        rintro e v9 ⟨rfl, hk⟩
        have D := Lib.hid (D.out.on hk)
        clear hk
        go_wp2_with fail
        go_ret
        exact ⟨rfl, D.out.K⟩
    · have hi1 : ¬ (i : Int) < (n : Int) := by omega
      generalize sure (pl false (cl f) i) = u at *
      go_wp2_with fail
      refine (works_any _).mono ?_
      rintro e v9 ⟨rfl, hk⟩
      have D := Lib.hid (D.out.on hk)
      clear hk
      go_wp2_with fail
      go_ret
      exact ⟨rfl, D.out.K⟩
end Go.Proofs.Ytcjfaegmbbpcaaa.Han
