/-
  The walk of the law AmplPlays of layer 15.
-/
import Derived.Test.YtfacacieegfopaaAmpK
import Derived.Test.YtfacacieegfopaaNum
import Derived.Test.YtfacacieegfopaaOpen
namespace Go.Proofs.Ytfacacieegfopaa.Law
open Go.RowKit AmpM Wd Bxs Amp
set_option linter.unusedVariables false
set_option linter.unusedSimpArgs false

set_option maxRecDepth 100000 in
set_option maxHeartbeats 4000000 in
theorem amplPlays_any (v : Bool) (A0 : Option Addr) (n c : Nat) (f : Nat → Nat → Int) (w : World) (h : Num.Grid 2 w A0 n c f) : Calls Try.prog 3 #[.bool v, .slice A0 n c] w fun e w' => e = .returned (.bool true) ∧ Kept w w' := by
  have G := Lib.hid h
  have hn : n ≤ 9223372036854775807 := by have h1 := h.cap; have h2 := h.most; simp only [maxLen] at h2; omega
  clear h
  have kn := Lib.hid (new_bx (Bx.nil w) v)
  have kr : Hid (∀ U g, Bx w [(g, 48, laA (AmpM.new v))] U → Calls Try.prog 10 #[.bool v] U (fun e W => ∃ b, e = .returned (ptr b) ∧ Bx w [(b, 50, rlA (AmpM.new v)), (g, 48, laA (AmpM.new v))] W)) := Lib.hid (fun U g hU => rnew_bx hU v)
  generalize AmpM.new v = X at *
  go_enter Try.func3, Try.ntmps3
  go_wp2_with fail
  refine kn.out.mono ?_
  rintro e v1 ⟨pp, rfl, hb⟩
  have D := Lib.hid hb
  clear hb kn
  go_wp2_with fail
  refine (kr.out _ _ D.out).mono ?_
  rintro e v2 ⟨mm, rfl, hb⟩
  have D : Hid (Bx w [(pp, 48, laA X), (mm, 50, rlA X)] v2) := Lib.hid hb.swap
  clear hb kr
  go_wp2_with fail
  go_loopw [5, 7] (fun s5 s7 wr => ∃ (i pp : Nat) (X : Lm), i ≤ n ∧ i ≤ 100 ∧ s5 = ptr pp ∧ s7 = .int .i64 i ∧ Hid (Bx w [(pp, 48, laA X), (mm, 50, rlA X)] wr)) (fun _ s7 _ => 100 - (intOf s7).toNat)
  case atStart => exact ⟨0, pp, X, Nat.zero_le _, Nat.zero_le _, rfl, rfl, D⟩
  case round =>
    obtain ⟨i, pp, X, hin, hi80, rfl, rfl, HD⟩ := hrel
    clear D
    have D := HD
    clear HD
    by_cases hlt : i < n
    · have hi0 : (0 : Int) ≤ (i : Int) := by omega
      have hi1 : (i : Int) < (n : Int) := by omega
      by_cases hlt2 : i < 100
      · have hi2 : (i : Int) < 100 := by omega
        have hwi : IntKind.i64.wrap ((i : Int) + 1) = (i : Int) + 1 := IntWalk.i64_in _ (by omega)
        obtain ⟨g, o, rfl, hb, hc⟩ := G.out.lies (by omega)
        have e0 := D.out.K.cell (hc i hlt 0 (by decide))
        have e1 := D.out.K.cell (hc i hlt 1 (by decide))
        clear hc
        rw [Nat.add_zero] at e0
        have kx := Lib.hid (fun W => bring_any (f i 0) 8 W (by decide) (by decide))
        have m0 := Int.emod_nonneg (f i 0) (show (8 : Int) ≠ 0 by decide)
        have m1 := Int.emod_lt_of_pos (f i 0) (show (0 : Int) < 8 by decide)
        generalize f i 0 % 8 = K at *
        generalize f i 0 = y0 at *
        generalize f i 1 = y1 at *
        have D : Hid (Bx w ([(pp, 48, laA X), (mm, 50, rlA X)] ++ [(wr.heap.size, 28, #[.int .i64 y0, .int .i64 y1])]) (wr.alloc (.cells #[.int .i64 y0, .int .i64 y1] 28))) := Lib.hid (D.out.new _ _)
        have Bd := D.out.get 2 rfl
        have cd0 := Bd.cell 0
        have cd1 := Bd.cell 1
        have td := Bd.lt
        clear Bd
        go_wp2_with fail
        clear cd0 cd1 td
        clear e0 e1
        generalize wr.alloc (.cells #[.int .i64 y0, .int .i64 y1] 28) = v1 at *
        generalize wr.heap.size = d at *
        have D : Hid (Bx w [(pp, 48, laA X), (mm, 50, rlA X), (d, 28, #[.int .i64 y0, .int .i64 y1])] v1) := D
        refine (kx.out _).mono ?_
        rintro e w' ⟨rfl, rfl⟩
        clear kx
        have hk : K = 0 ∨ K = 1 ∨ K = 2 ∨ K = 3 ∨ K = 4 ∨ K = 5 ∨ K = 6 ∨ K = 7 := by omega
        clear m0 m1
        rcases hk with rfl | rfl | rfl | rfl | rfl | rfl | rfl | rfl
        · have kp : Hid (∀ U, Bx w [(pp, 48, laA X), (mm, 50, rlA X), (d, 28, #[.int .i64 y0, .int .i64 y1])] U → Calls Try.prog 12 #[ptr pp, .int .i64 y1] U (To (.int .i64 (gotE y1)) w [(pp, 48, laA (AmpM.got X y1)), (mm, 50, rlA X), (d, 28, #[.int .i64 y0, .int .i64 y1])])) := Lib.hid (fun U hU => got_bx hU 0 rfl y1)
          have kr : Hid (∀ U, Bx w [(pp, 48, laA (AmpM.got X y1)), (mm, 50, rlA X), (d, 28, #[.int .i64 y0, .int .i64 y1])] U → Calls Try.prog 13 #[ptr mm, .int .i64 y1] U (To (.int .i64 (gotE y1)) w [(pp, 48, laA (AmpM.got X y1)), (mm, 50, rlA (AmpM.got X y1)), (d, 28, #[.int .i64 y0, .int .i64 y1])])) := Lib.hid (fun U hU => rgot_bx hU 1 rfl y1)
          generalize AmpM.got X y1 = Y at *
          generalize gotE y1 = E at *
          have S0 : Hid (∀ U A B, Bx w [(pp, 48, laA A), (mm, 50, rlA B), (d, 28, #[.int .i64 y0, .int .i64 y1])] U → U.cell? ⟨d, 1, none⟩ = some (.int .i64 y1)) := Lib.hid (fun U A B h => (h.get 2 rfl).cell 1)
          have Bd := D.out.get 2 rfl
          have cd0 := Bd.cell 0
          have cd1 := Bd.cell 1
          have td := Bd.lt
          clear Bd
          go_upto_region 12 with (fail)
          clear cd0 cd1 td
          have D : Hid (Bx w [(pp, 48, laA X), (mm, 50, rlA X), (d, 28, #[.int .i64 y0, .int .i64 y1])] v1.drew) := Lib.hid (D.out.on (Kept.refl _).drew)
          go_region_held3 (fun U => U.cell? ⟨d, 1, none⟩ = some (.int .i64 y1))
            (first | with_reducible exact S0.out _ _ _ D.out)
            (first
              | (go_at_call 12; (with_reducible refine (kp.out _ D.out).mono ?_); rintro e w' ⟨rfl, hb⟩; have D := Lib.hid hb; clear hb)
              | (go_at_call 13; (with_reducible refine (kr.out _ D.out).mono ?_); rintro e w' ⟨rfl, hb⟩; have D := Lib.hid hb; clear hb))
          have ks := Lib.hid (same_bx D.out 0 1 rfl rfl y1)
          have Bd := D.out.get 2 rfl
          have cd0 := Bd.cell 0
          have cd1 := Bd.cell 1
          have td := Bd.lt
          clear Bd
          go_wp2_with fail
          clear cd0 cd1 td
          refine ks.out.mono ?_
          rintro e v9 ⟨rfl, hb⟩
          have D := Lib.hid hb
          clear hb
          go_wp2_with fail
          go_roundw
          case rel => exact ⟨i + 1, pp, Y, by omega, by omega, rfl, by go_num, Lib.hid (Bx.sel D.out [0, 1] (by decide))⟩
          case measure => simp [intOf]; omega
        · have kp : Hid (∀ U, Bx w [(pp, 48, laA X), (mm, 50, rlA X), (d, 28, #[.int .i64 y0, .int .i64 y1])] U → Calls Try.prog 12 #[ptr pp, .int .i64 y1] U (To (.int .i64 (gotE y1)) w [(pp, 48, laA (AmpM.got X y1)), (mm, 50, rlA X), (d, 28, #[.int .i64 y0, .int .i64 y1])])) := Lib.hid (fun U hU => got_bx hU 0 rfl y1)
          have kr : Hid (∀ U, Bx w [(pp, 48, laA (AmpM.got X y1)), (mm, 50, rlA X), (d, 28, #[.int .i64 y0, .int .i64 y1])] U → Calls Try.prog 13 #[ptr mm, .int .i64 y1] U (To (.int .i64 (gotE y1)) w [(pp, 48, laA (AmpM.got X y1)), (mm, 50, rlA (AmpM.got X y1)), (d, 28, #[.int .i64 y0, .int .i64 y1])])) := Lib.hid (fun U hU => rgot_bx hU 1 rfl y1)
          generalize AmpM.got X y1 = Y at *
          generalize gotE y1 = E at *
          have S0 : Hid (∀ U A B, Bx w [(pp, 48, laA A), (mm, 50, rlA B), (d, 28, #[.int .i64 y0, .int .i64 y1])] U → U.cell? ⟨d, 1, none⟩ = some (.int .i64 y1)) := Lib.hid (fun U A B h => (h.get 2 rfl).cell 1)
          have Bd := D.out.get 2 rfl
          have cd0 := Bd.cell 0
          have cd1 := Bd.cell 1
          have td := Bd.lt
          clear Bd
          go_upto_region 12 with (fail)
          clear cd0 cd1 td
          have D : Hid (Bx w [(pp, 48, laA X), (mm, 50, rlA X), (d, 28, #[.int .i64 y0, .int .i64 y1])] v1.drew) := Lib.hid (D.out.on (Kept.refl _).drew)
          go_region_held3 (fun U => U.cell? ⟨d, 1, none⟩ = some (.int .i64 y1))
            (first | with_reducible exact S0.out _ _ _ D.out)
            (first
              | (go_at_call 12; (with_reducible refine (kp.out _ D.out).mono ?_); rintro e w' ⟨rfl, hb⟩; have D := Lib.hid hb; clear hb)
              | (go_at_call 13; (with_reducible refine (kr.out _ D.out).mono ?_); rintro e w' ⟨rfl, hb⟩; have D := Lib.hid hb; clear hb))
          have ks := Lib.hid (same_bx D.out 0 1 rfl rfl y1)
          have Bd := D.out.get 2 rfl
          have cd0 := Bd.cell 0
          have cd1 := Bd.cell 1
          have td := Bd.lt
          clear Bd
          go_wp2_with fail
          clear cd0 cd1 td
          refine ks.out.mono ?_
          rintro e v9 ⟨rfl, hb⟩
          have D := Lib.hid hb
          clear hb
          go_wp2_with fail
          go_roundw
          case rel => exact ⟨i + 1, pp, Y, by omega, by omega, rfl, by go_num, Lib.hid (Bx.sel D.out [0, 1] (by decide))⟩
          case measure => simp [intOf]; omega
        · have kp : Hid (∀ U, Bx w [(pp, 48, laA X), (mm, 50, rlA X), (d, 28, #[.int .i64 y0, .int .i64 y1])] U → Calls Try.prog 12 #[ptr pp, .int .i64 y1] U (To (.int .i64 (gotE y1)) w [(pp, 48, laA (AmpM.got X y1)), (mm, 50, rlA X), (d, 28, #[.int .i64 y0, .int .i64 y1])])) := Lib.hid (fun U hU => got_bx hU 0 rfl y1)
          have kr : Hid (∀ U, Bx w [(pp, 48, laA (AmpM.got X y1)), (mm, 50, rlA X), (d, 28, #[.int .i64 y0, .int .i64 y1])] U → Calls Try.prog 13 #[ptr mm, .int .i64 y1] U (To (.int .i64 (gotE y1)) w [(pp, 48, laA (AmpM.got X y1)), (mm, 50, rlA (AmpM.got X y1)), (d, 28, #[.int .i64 y0, .int .i64 y1])])) := Lib.hid (fun U hU => rgot_bx hU 1 rfl y1)
          generalize AmpM.got X y1 = Y at *
          generalize gotE y1 = E at *
          have S0 : Hid (∀ U A B, Bx w [(pp, 48, laA A), (mm, 50, rlA B), (d, 28, #[.int .i64 y0, .int .i64 y1])] U → U.cell? ⟨d, 1, none⟩ = some (.int .i64 y1)) := Lib.hid (fun U A B h => (h.get 2 rfl).cell 1)
          have Bd := D.out.get 2 rfl
          have cd0 := Bd.cell 0
          have cd1 := Bd.cell 1
          have td := Bd.lt
          clear Bd
          go_upto_region 12 with (fail)
          clear cd0 cd1 td
          have D : Hid (Bx w [(pp, 48, laA X), (mm, 50, rlA X), (d, 28, #[.int .i64 y0, .int .i64 y1])] v1.drew) := Lib.hid (D.out.on (Kept.refl _).drew)
          go_region_held3 (fun U => U.cell? ⟨d, 1, none⟩ = some (.int .i64 y1))
            (first | with_reducible exact S0.out _ _ _ D.out)
            (first
              | (go_at_call 12; (with_reducible refine (kp.out _ D.out).mono ?_); rintro e w' ⟨rfl, hb⟩; have D := Lib.hid hb; clear hb)
              | (go_at_call 13; (with_reducible refine (kr.out _ D.out).mono ?_); rintro e w' ⟨rfl, hb⟩; have D := Lib.hid hb; clear hb))
          have ks := Lib.hid (same_bx D.out 0 1 rfl rfl y1)
          have Bd := D.out.get 2 rfl
          have cd0 := Bd.cell 0
          have cd1 := Bd.cell 1
          have td := Bd.lt
          clear Bd
          go_wp2_with fail
          clear cd0 cd1 td
          refine ks.out.mono ?_
          rintro e v9 ⟨rfl, hb⟩
          have D := Lib.hid hb
          clear hb
          go_wp2_with fail
          go_roundw
          case rel => exact ⟨i + 1, pp, Y, by omega, by omega, rfl, by go_num, Lib.hid (Bx.sel D.out [0, 1] (by decide))⟩
          case measure => simp [intOf]; omega
        · have kp : Hid (∀ U, Bx w [(pp, 48, laA X), (mm, 50, rlA X), (d, 28, #[.int .i64 y0, .int .i64 y1])] U → Calls Try.prog 14 #[ptr pp, .int .i64 y1] U (To (.int .i64 (sentE X y1)) w [(pp, 48, laA (AmpM.sent X y1)), (mm, 50, rlA X), (d, 28, #[.int .i64 y0, .int .i64 y1])])) := Lib.hid (fun U hU => sent_bx hU 0 rfl y1)
          have kr : Hid (∀ U, Bx w [(pp, 48, laA (AmpM.sent X y1)), (mm, 50, rlA X), (d, 28, #[.int .i64 y0, .int .i64 y1])] U → Calls Try.prog 15 #[ptr mm, .int .i64 y1] U (To (.int .i64 (sentE X y1)) w [(pp, 48, laA (AmpM.sent X y1)), (mm, 50, rlA (AmpM.sent X y1)), (d, 28, #[.int .i64 y0, .int .i64 y1])])) := Lib.hid (fun U hU => rsent_bx hU 1 rfl y1)
          generalize AmpM.sent X y1 = Y at *
          generalize sentE X y1 = E at *
          have S0 : Hid (∀ U A B, Bx w [(pp, 48, laA A), (mm, 50, rlA B), (d, 28, #[.int .i64 y0, .int .i64 y1])] U → U.cell? ⟨d, 1, none⟩ = some (.int .i64 y1)) := Lib.hid (fun U A B h => (h.get 2 rfl).cell 1)
          have Bd := D.out.get 2 rfl
          have cd0 := Bd.cell 0
          have cd1 := Bd.cell 1
          have td := Bd.lt
          clear Bd
          go_upto_region 17 with (fail)
          clear cd0 cd1 td
          have D : Hid (Bx w [(pp, 48, laA X), (mm, 50, rlA X), (d, 28, #[.int .i64 y0, .int .i64 y1])] v1.drew) := Lib.hid (D.out.on (Kept.refl _).drew)
          go_region_held3 (fun U => U.cell? ⟨d, 1, none⟩ = some (.int .i64 y1))
            (first | with_reducible exact S0.out _ _ _ D.out)
            (first
              | (go_at_call 14; (with_reducible refine (kp.out _ D.out).mono ?_); rintro e w' ⟨rfl, hb⟩; have D := Lib.hid hb; clear hb)
              | (go_at_call 15; (with_reducible refine (kr.out _ D.out).mono ?_); rintro e w' ⟨rfl, hb⟩; have D := Lib.hid hb; clear hb))
          have ks := Lib.hid (same_bx D.out 0 1 rfl rfl y1)
          have Bd := D.out.get 2 rfl
          have cd0 := Bd.cell 0
          have cd1 := Bd.cell 1
          have td := Bd.lt
          clear Bd
          go_wp2_with fail
          clear cd0 cd1 td
          refine ks.out.mono ?_
          rintro e v9 ⟨rfl, hb⟩
          have D := Lib.hid hb
          clear hb
          go_wp2_with fail
          go_roundw
          case rel => exact ⟨i + 1, pp, Y, by omega, by omega, rfl, by go_num, Lib.hid (Bx.sel D.out [0, 1] (by decide))⟩
          case measure => simp [intOf]; omega
        · have kp : Hid (∀ U, Bx w [(pp, 48, laA X), (mm, 50, rlA X), (d, 28, #[.int .i64 y0, .int .i64 y1])] U → Calls Try.prog 14 #[ptr pp, .int .i64 y1] U (To (.int .i64 (sentE X y1)) w [(pp, 48, laA (AmpM.sent X y1)), (mm, 50, rlA X), (d, 28, #[.int .i64 y0, .int .i64 y1])])) := Lib.hid (fun U hU => sent_bx hU 0 rfl y1)
          have kr : Hid (∀ U, Bx w [(pp, 48, laA (AmpM.sent X y1)), (mm, 50, rlA X), (d, 28, #[.int .i64 y0, .int .i64 y1])] U → Calls Try.prog 15 #[ptr mm, .int .i64 y1] U (To (.int .i64 (sentE X y1)) w [(pp, 48, laA (AmpM.sent X y1)), (mm, 50, rlA (AmpM.sent X y1)), (d, 28, #[.int .i64 y0, .int .i64 y1])])) := Lib.hid (fun U hU => rsent_bx hU 1 rfl y1)
          generalize AmpM.sent X y1 = Y at *
          generalize sentE X y1 = E at *
          have S0 : Hid (∀ U A B, Bx w [(pp, 48, laA A), (mm, 50, rlA B), (d, 28, #[.int .i64 y0, .int .i64 y1])] U → U.cell? ⟨d, 1, none⟩ = some (.int .i64 y1)) := Lib.hid (fun U A B h => (h.get 2 rfl).cell 1)
          have Bd := D.out.get 2 rfl
          have cd0 := Bd.cell 0
          have cd1 := Bd.cell 1
          have td := Bd.lt
          clear Bd
          go_upto_region 17 with (fail)
          clear cd0 cd1 td
          have D : Hid (Bx w [(pp, 48, laA X), (mm, 50, rlA X), (d, 28, #[.int .i64 y0, .int .i64 y1])] v1.drew) := Lib.hid (D.out.on (Kept.refl _).drew)
          go_region_held3 (fun U => U.cell? ⟨d, 1, none⟩ = some (.int .i64 y1))
            (first | with_reducible exact S0.out _ _ _ D.out)
            (first
              | (go_at_call 14; (with_reducible refine (kp.out _ D.out).mono ?_); rintro e w' ⟨rfl, hb⟩; have D := Lib.hid hb; clear hb)
              | (go_at_call 15; (with_reducible refine (kr.out _ D.out).mono ?_); rintro e w' ⟨rfl, hb⟩; have D := Lib.hid hb; clear hb))
          have ks := Lib.hid (same_bx D.out 0 1 rfl rfl y1)
          have Bd := D.out.get 2 rfl
          have cd0 := Bd.cell 0
          have cd1 := Bd.cell 1
          have td := Bd.lt
          clear Bd
          go_wp2_with fail
          clear cd0 cd1 td
          refine ks.out.mono ?_
          rintro e v9 ⟨rfl, hb⟩
          have D := Lib.hid hb
          clear hb
          go_wp2_with fail
          go_roundw
          case rel => exact ⟨i + 1, pp, Y, by omega, by omega, rfl, by go_num, Lib.hid (Bx.sel D.out [0, 1] (by decide))⟩
          case measure => simp [intOf]; omega
        · have kp : Hid (∀ U, Bx w [(pp, 48, laA X), (mm, 50, rlA X), (d, 28, #[.int .i64 y0, .int .i64 y1])] U → Calls Try.prog 14 #[ptr pp, .int .i64 y1] U (To (.int .i64 (sentE X y1)) w [(pp, 48, laA (AmpM.sent X y1)), (mm, 50, rlA X), (d, 28, #[.int .i64 y0, .int .i64 y1])])) := Lib.hid (fun U hU => sent_bx hU 0 rfl y1)
          have kr : Hid (∀ U, Bx w [(pp, 48, laA (AmpM.sent X y1)), (mm, 50, rlA X), (d, 28, #[.int .i64 y0, .int .i64 y1])] U → Calls Try.prog 15 #[ptr mm, .int .i64 y1] U (To (.int .i64 (sentE X y1)) w [(pp, 48, laA (AmpM.sent X y1)), (mm, 50, rlA (AmpM.sent X y1)), (d, 28, #[.int .i64 y0, .int .i64 y1])])) := Lib.hid (fun U hU => rsent_bx hU 1 rfl y1)
          generalize AmpM.sent X y1 = Y at *
          generalize sentE X y1 = E at *
          have S0 : Hid (∀ U A B, Bx w [(pp, 48, laA A), (mm, 50, rlA B), (d, 28, #[.int .i64 y0, .int .i64 y1])] U → U.cell? ⟨d, 1, none⟩ = some (.int .i64 y1)) := Lib.hid (fun U A B h => (h.get 2 rfl).cell 1)
          have Bd := D.out.get 2 rfl
          have cd0 := Bd.cell 0
          have cd1 := Bd.cell 1
          have td := Bd.lt
          clear Bd
          go_upto_region 17 with (fail)
          clear cd0 cd1 td
          have D : Hid (Bx w [(pp, 48, laA X), (mm, 50, rlA X), (d, 28, #[.int .i64 y0, .int .i64 y1])] v1.drew) := Lib.hid (D.out.on (Kept.refl _).drew)
          go_region_held3 (fun U => U.cell? ⟨d, 1, none⟩ = some (.int .i64 y1))
            (first | with_reducible exact S0.out _ _ _ D.out)
            (first
              | (go_at_call 14; (with_reducible refine (kp.out _ D.out).mono ?_); rintro e w' ⟨rfl, hb⟩; have D := Lib.hid hb; clear hb)
              | (go_at_call 15; (with_reducible refine (kr.out _ D.out).mono ?_); rintro e w' ⟨rfl, hb⟩; have D := Lib.hid hb; clear hb))
          have ks := Lib.hid (same_bx D.out 0 1 rfl rfl y1)
          have Bd := D.out.get 2 rfl
          have cd0 := Bd.cell 0
          have cd1 := Bd.cell 1
          have td := Bd.lt
          clear Bd
          go_wp2_with fail
          clear cd0 cd1 td
          refine ks.out.mono ?_
          rintro e v9 ⟨rfl, hb⟩
          have D := Lib.hid hb
          clear hb
          go_wp2_with fail
          go_roundw
          case rel => exact ⟨i + 1, pp, Y, by omega, by omega, rfl, by go_num, Lib.hid (Bx.sel D.out [0, 1] (by decide))⟩
          case measure => simp [intOf]; omega
        · go_wp2_with fail
          refine (rcopy_bx D.out 1 rfl).mono ?_
          rintro e v2 ⟨m2, rfl, hb⟩
          have D := Lib.hid hb
          clear hb
          go_wp2_with fail
          refine (copy_bx D.out 1 rfl).mono ?_
          rintro e v3 ⟨p2, rfl, hb⟩
          have D : Hid (Bx w [(p2, 48, laA X), (m2, 50, rlA X), (pp, 48, laA X), (mm, 50, rlA X), (d, 28, #[.int .i64 y0, .int .i64 y1])] v3) := Lib.hid hb
          clear hb
          have kp : Hid (∀ U, Bx w [(p2, 48, laA X), (m2, 50, rlA X), (pp, 48, laA X), (mm, 50, rlA X), (d, 28, #[.int .i64 y0, .int .i64 y1])] U → Calls Try.prog 12 #[ptr pp, .int .i64 y1] U (To (.int .i64 (gotE y1)) w [(p2, 48, laA X), (m2, 50, rlA X), (pp, 48, laA (AmpM.got X y1)), (mm, 50, rlA X), (d, 28, #[.int .i64 y0, .int .i64 y1])])) := Lib.hid (fun U hU => got_bx hU 2 rfl y1)
          have kr : Hid (∀ U, Bx w [(p2, 48, laA X), (m2, 50, rlA X), (pp, 48, laA (AmpM.got X y1)), (mm, 50, rlA X), (d, 28, #[.int .i64 y0, .int .i64 y1])] U → Calls Try.prog 13 #[ptr m2, .int .i64 y1] U (To (.int .i64 (gotE y1)) w [(p2, 48, laA X), (m2, 50, rlA (AmpM.got X y1)), (pp, 48, laA (AmpM.got X y1)), (mm, 50, rlA X), (d, 28, #[.int .i64 y0, .int .i64 y1])])) := Lib.hid (fun U hU => rgot_bx hU 1 rfl y1)
          generalize AmpM.got X y1 = Y at *
          generalize gotE y1 = E at *
          have kq : Hid (∀ U, Bx w [(p2, 48, laA X), (m2, 50, rlA Y), (pp, 48, laA Y), (mm, 50, rlA X), (d, 28, #[.int .i64 y0, .int .i64 y1])] U → Calls Try.prog 18 #[ptr pp, ptr m2, .int .i64 y1] U (To (.bool true) w [(p2, 48, laA X), (m2, 50, rlA Y), (pp, 48, laA Y), (mm, 50, rlA X), (d, 28, #[.int .i64 y0, .int .i64 y1])])) := Lib.hid (fun U hU => same_bx hU 2 1 rfl rfl y1)
          have S0 : Hid (∀ U A B, Bx w [(p2, 48, laA X), (m2, 50, rlA B), (pp, 48, laA A), (mm, 50, rlA X), (d, 28, #[.int .i64 y0, .int .i64 y1])] U → U.cell? ⟨d, 1, none⟩ = some (.int .i64 y1)) := Lib.hid (fun U A B h => (h.get 4 rfl).cell 1)
          have Bd := D.out.get 4 rfl
          have cd0 := Bd.cell 0
          have cd1 := Bd.cell 1
          have td := Bd.lt
          clear Bd
          go_upto_region 22 with (fail)
          clear cd0 cd1 td
          have D : Hid (Bx w [(p2, 48, laA X), (m2, 50, rlA X), (pp, 48, laA X), (mm, 50, rlA X), (d, 28, #[.int .i64 y0, .int .i64 y1])] v3.drew) := Lib.hid (D.out.on (Kept.refl _).drew)
          go_region_held3 (fun U => U.cell? ⟨d, 1, none⟩ = some (.int .i64 y1))
            (first | with_reducible exact S0.out _ _ _ D.out)
            (first
              | (go_at_call 12; (with_reducible refine (kp.out _ D.out).mono ?_); rintro e w' ⟨rfl, hb⟩; have D := Lib.hid hb; clear hb)
              | (go_at_call 13; (with_reducible refine (kr.out _ D.out).mono ?_); rintro e w' ⟨rfl, hb⟩; have D := Lib.hid hb; clear hb)
              | (go_at_call 18; (with_reducible refine (kq.out _ D.out).mono ?_); rintro e w' ⟨rfl, hb⟩; have D := Lib.hid hb; clear hb))
          have ks := Lib.hid (same_bx D.out 0 3 rfl rfl y1)
          have Bd := D.out.get 4 rfl
          have cd0 := Bd.cell 0
          have cd1 := Bd.cell 1
          have td := Bd.lt
          clear Bd
          go_wp2_with fail
          clear cd0 cd1 td
          refine ks.out.mono ?_
          rintro e v9 ⟨rfl, hb⟩
          have D := Lib.hid hb
          clear hb
          go_wp2_with fail
          go_roundw
          case rel => exact ⟨i + 1, p2, X, by omega, by omega, rfl, by go_num, Lib.hid (Bx.sel D.out [0, 3] (by decide))⟩
          case measure => simp [intOf]; omega
        · have ky := Lib.hid (fun W => bring_any y1 6 W (by decide) (by decide))
          generalize y1 % 6 = M at *
          have Bd := D.out.get 2 rfl
          have cd0 := Bd.cell 0
          have cd1 := Bd.cell 1
          have td := Bd.lt
          clear Bd
          go_wp2_with fail
          clear cd0 cd1 td
          refine (ky.out _).mono ?_
          rintro e w' ⟨rfl, rfl⟩
          clear ky
          by_cases hM : M = 5
          · subst hM
            go_wp2_with fail
            refine (validate_bx D.out 0 rfl).mono ?_
            rintro e v2 ⟨rfl, hb⟩
            have D := Lib.hid hb
            clear hb
            go_wp2_with fail
            refine (rvalidate_bx D.out 1 rfl).mono ?_
            rintro e v3 ⟨rfl, hb⟩
            have D : Hid (Bx w [(pp, 48, laA (valid X)), (mm, 50, rlA (valid X)), (d, 28, #[.int .i64 y0, .int .i64 y1])] v3) := Lib.hid hb
            clear hb
            generalize valid X = Y at *
            have ks := Lib.hid (same_bx D.out 0 1 rfl rfl y1)
            have Bd := D.out.get 2 rfl
            have cd0 := Bd.cell 0
            have cd1 := Bd.cell 1
            have td := Bd.lt
            clear Bd
            go_wp2_with fail
            clear cd0 cd1 td
            refine ks.out.mono ?_
            rintro e v9 ⟨rfl, hb⟩
            have D := Lib.hid hb
            clear hb
            go_wp2_with fail
            go_roundw
            case rel => exact ⟨i + 1, pp, Y, by omega, by omega, rfl, by go_num, Lib.hid (Bx.sel D.out [0, 1] (by decide))⟩
            case measure => simp [intOf]; omega
          · have hM1 : (M == 5) = false := by simp [hM]
            have ks := Lib.hid (same_bx D.out 0 1 rfl rfl y1)
            have Bd := D.out.get 2 rfl
            have cd0 := Bd.cell 0
            have cd1 := Bd.cell 1
            have td := Bd.lt
            clear Bd
            go_wp2_with fail
            clear cd0 cd1 td
            refine ks.out.mono ?_
            rintro e v9 ⟨rfl, hb⟩
            have D := Lib.hid hb
            clear hb
            go_wp2_with fail
            go_roundw
            case rel => exact ⟨i + 1, pp, X, by omega, by omega, rfl, by go_num, Lib.hid (Bx.sel D.out [0, 1] (by decide))⟩
            case measure => simp [intOf]; omega
      · have hi2' : ¬ (i : Int) < 100 := by omega
        go_wp2_with fail
        refine (works_bx D.out).mono ?_
        rintro e v50 ⟨rfl, hb⟩
        have D := Lib.hid hb
        go_wp2_with fail
        go_ret
        exact ⟨rfl, D.out.K⟩
    · have hi1 : ¬ (i : Int) < (n : Int) := by omega
      go_wp2_with fail
      refine (works_bx D.out).mono ?_
      rintro e v50 ⟨rfl, hb⟩
      have D := Lib.hid hb
      go_wp2_with fail
      go_ret
      exact ⟨rfl, D.out.K⟩
end Go.Proofs.Ytfacacieegfopaa.Law
