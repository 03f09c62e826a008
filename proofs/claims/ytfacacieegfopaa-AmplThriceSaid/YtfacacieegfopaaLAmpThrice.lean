/-
  The walk of the law AmplThrice of layer 15.
-/
import Derived.Test.YtfacacieegfopaaAmpK
import Derived.Test.YtfacacieegfopaaNum
import Derived.Test.YtfacacieegfopaaOpen
namespace Go.Proofs.Ytfacacieegfopaa.Law
open Go.RowKit AmpM Wd Bxs Amp
set_option linter.unusedVariables false
set_option linter.unusedSimpArgs false

set_option maxRecDepth 100000 in
set_option maxHeartbeats 4000000 in
theorem amplThrice_any (A0 : Option Addr) (n c : Nat) (f : Nat → Nat → Int) (w : World) (h : Num.Grid 1 w A0 n c f) : Calls Try.prog 4 #[.slice A0 n c] w fun e w' => e = .returned (.bool true) ∧ Kept w w' := by
  have G := Lib.hid h
  have hn : n ≤ 9223372036854775807 := by have h1 := h.cap; have h2 := h.most; simp only [maxLen] at h2; omega
  clear h
  have kz := Lib.hid (works_any w)
  go_enter Try.func4, Try.ntmps4
  go_wp2_with fail
  refine kz.out.mono ?_
  rintro e v0 ⟨rfl, hb⟩
  have D := Lib.hid hb
  clear hb kz
  go_wp2_with fail
  refine (new_bx D.out false).mono ?_
  rintro e v1 ⟨pp, rfl, hb⟩
  have D : Hid (Bx w [(pp, 48, laA (AmpM.new false))] v1) := Lib.hid hb
  clear hb
  go_wp2_with fail
  go_loopw [4, 5, 6] (fun s4 s5 s6 wr => ∃ (i : Nat) (G S : Int) (X : Lm), i ≤ n ∧ i ≤ 100 ∧ s4 = .int .i64 G ∧ s5 = .int .i64 S ∧ s6 = .int .i64 i ∧ Hid (Thrice X G S i) ∧ Hid (Bx w [(pp, 48, laA X)] wr)) (fun _ _ s6 _ => 100 - (intOf s6).toNat)
  case atStart => exact ⟨0, 0, 0, AmpM.new false, Nat.zero_le _, Nat.zero_le _, rfl, rfl, rfl, Lib.hid ⟨rfl, rfl, rfl, by decide, by decide, by decide, by decide⟩, D⟩
  case round =>
    obtain ⟨i, G', S, X, hin, hi100, rfl, rfl, rfl, HT, HD⟩ := hrel
    clear D
    have D := HD
    clear HD
    by_cases hlt : i < n
    · have hi0 : (0 : Int) ≤ (i : Int) := by omega
      have hi1 : (i : Int) < (n : Int) := by omega
      by_cases hlt2 : i < 100
      · have hi2 : (i : Int) < 100 := by omega
        have hwi : IntKind.i64.wrap ((i : Int) + 1) = (i : Int) + 1 := IntWalk.i64_in _ (by omega)
        obtain ⟨g, o, rfl, hb, hc⟩ := G.out.lies (by omega)
        have e0 := hc i hlt 0 (by decide)
        clear hc hb
        rw [Nat.add_zero, Nat.mul_one] at e0
        have e1 : wr.cell? ⟨g, o + i, none⟩ = some (.int .i64 (f i 0)) := D.out.K.cell e0
        have kx := Lib.hid (fun W => bring_any (f i 0) 131072 W (by decide) (by decide))
        have m0 := Int.emod_nonneg (f i 0) (show (131072 : Int) ≠ 0 by decide)
        have m1 := Int.emod_lt_of_pos (f i 0) (show (0 : Int) < 131072 by decide)
        generalize f i 0 % 131072 = N at *
        generalize f i 0 = y at *
        have t0 : N.tmod 2 = N % 2 := Int.tmod_eq_emod_of_nonneg m0
        have t1 : N.tdiv 2 = N / 2 := Int.tdiv_eq_ediv_of_nonneg m0
        have z0 : N % 2 = 0 ∨ N % 2 = 1 := by omega
        have z1 : 0 ≤ N / 2 ∧ N / 2 ≤ 65535 := by omega
        generalize N % 2 = B at *
        generalize N / 2 = Q at *
        have hz : Hid (sz Q) := Lib.hid z1
        have wQ : IntKind.i64.wrap Q = Q := IntWalk.i64_in _ (by omega)
        have wB : IntKind.i64.wrap B = B := IntWalk.i64_in _ (by omega)
        have c0 := HT.out.s0
        have c1 := HT.out.le
        have c2 := HT.out.g1
        go_wp2_with fail
        refine (kx.out _).mono ?_
        rintro e w' ⟨rfl, rfl⟩
        clear kx e0 e1
        rcases z0 with rfl | rfl
        · obtain ⟨T0, hT0⟩ : ∃ T0, 3 * G' = T0 := ⟨_, rfl⟩
          have wT0 : IntKind.i64.wrap (3 * G') = T0 := by rw [hT0]; exact IntWalk.i64_in _ (by omega)
          obtain ⟨S2, hS2⟩ : ∃ S2, S + Q = S2 := ⟨_, rfl⟩
          have wS2 : IntKind.i64.wrap (S + Q) = S2 := by rw [hS2]; exact IntWalk.i64_in _ (by omega)
          by_cases hm : S2 ≤ T0
          · have dm : decide (S2 ≤ T0) = true := decide_eq_true hm
            have he := (HT.out.sent (n := Q) hz.out (by omega) (by omega)).1
            have HT2 := Lib.hid (HT.out.sent (n := Q) hz.out (by omega) (by omega)).2
            rw [hS2] at HT2
            have ks : Hid (∀ U, Bx w [(pp, 48, laA X)] U → Calls Try.prog 14 #[ptr pp, .int .i64 Q] U (To (.int .i64 0) w [(pp, 48, laA (AmpM.sent X Q))])) := Lib.hid (fun U h => by
              have := sent_bx h 0 rfl Q
              rwa [he] at this)
            generalize AmpM.sent X Q = Y at *
            clear he hT0 hS2 c0 c1 c2 HT hm z1
            go_wp2_with fail
            refine (ks.out _ D.out).mono ?_
            rintro e v2 ⟨rfl, hb⟩
            have D := Lib.hid hb
            clear hb
            have HT3 : Hid (Thrice Y G' S2 ((i + 1 : Nat) : Int)) := Lib.hid (by have := HT2.out; rwa [show ((i + 1 : Nat) : Int) = (i : Int) + 1 by omega])
            have b0 := HT2.out.s0
            have b1 := HT2.out.le
            have b2 := HT2.out.g1
            have b3 := HT2.out.m1
            have kt : Hid (∀ U, Bx w [(pp, 48, laA Y)] U → Calls Try.prog 22 #[ptr pp] U (To (.tuple #[.int .i64 G', .int .i64 S2]) w [(pp, 48, laA Y)])) := Lib.hid (fun U h => by
              have := totals_bx h 0 rfl
              rwa [HT2.out.i, HT2.out.o] at this)
            have kl : Hid (∀ U, Bx w [(pp, 48, laA Y)] U → Calls Try.prog 23 #[ptr pp] U (To (.int .i64 (3 * G' - S2)) w [(pp, 48, laA Y)])) := Lib.hid (fun U h => by
              have := left_bx h 0 rfl
              rwa [HT2.out.lft] at this)
            obtain ⟨T, hT⟩ : ∃ T, 3 * G' = T := ⟨_, rfl⟩
            obtain rfl : T = T0 := by rw [← hT, ← wT0]; exact (IntWalk.i64_in _ (by omega)).symm
            obtain ⟨U, hU⟩ : ∃ U, T - S2 = U := ⟨_, rfl⟩
            have wU : IntKind.i64.wrap (T - S2) = U := by rw [hU]; exact IntWalk.i64_in _ (by omega)
            have dT : decide (T < S2) = false := decide_eq_false (by omega)
            rw [hT, hU] at kl
            clear hT hU b0 b1 b2 b3 HT2
            go_wp2_with fail
            refine (kt.out _ D.out).mono ?_
            rintro e v8 ⟨rfl, hb⟩
            have D := Lib.hid hb
            clear hb
            go_wp2_with fail
            refine (kl.out _ D.out).mono ?_
            rintro e v9 ⟨rfl, hb⟩
            have D := Lib.hid hb
            clear hb
            go_wp2_with fail
            go_roundw
            case rel => exact ⟨i + 1, G', S2, Y, by omega, by omega, rfl, rfl, by go_num, HT3, D⟩
            case measure => simp [intOf]; omega
          · have dm : decide (S2 ≤ T0) = false := decide_eq_false hm
            have he := (HT.out.no (n := Q) hz.out (by omega) (by omega)).1
            have hx := (HT.out.no (n := Q) hz.out (by omega) (by omega)).2.1
            have HT2 := Lib.hid (HT.out.no (n := Q) hz.out (by omega) (by omega)).2.2
            have ks : Hid (∀ U, Bx w [(pp, 48, laA X)] U → Calls Try.prog 14 #[ptr pp, .int .i64 Q] U (To (.int .i64 212) w [(pp, 48, laA X)])) := Lib.hid (fun U h => by
              have := sent_bx h 0 rfl Q
              rwa [he, hx] at this)
            clear he hx hT0 hS2 c0 c1 c2 HT hm z1
            go_wp2_with fail
            refine (ks.out _ D.out).mono ?_
            rintro e v2 ⟨rfl, hb⟩
            have D := Lib.hid hb
            clear hb
            have HT3 : Hid (Thrice X G' S ((i + 1 : Nat) : Int)) := Lib.hid (by have := HT2.out; rwa [show ((i + 1 : Nat) : Int) = (i : Int) + 1 by omega])
            have b0 := HT2.out.s0
            have b1 := HT2.out.le
            have b2 := HT2.out.g1
            have b3 := HT2.out.m1
            have kt : Hid (∀ U, Bx w [(pp, 48, laA X)] U → Calls Try.prog 22 #[ptr pp] U (To (.tuple #[.int .i64 G', .int .i64 S]) w [(pp, 48, laA X)])) := Lib.hid (fun U h => by
              have := totals_bx h 0 rfl
              rwa [HT2.out.i, HT2.out.o] at this)
            have kl : Hid (∀ U, Bx w [(pp, 48, laA X)] U → Calls Try.prog 23 #[ptr pp] U (To (.int .i64 (3 * G' - S)) w [(pp, 48, laA X)])) := Lib.hid (fun U h => by
              have := left_bx h 0 rfl
              rwa [HT2.out.lft] at this)
            obtain ⟨T, hT⟩ : ∃ T, 3 * G' = T := ⟨_, rfl⟩
            obtain rfl : T = T0 := by rw [← hT, ← wT0]; exact (IntWalk.i64_in _ (by omega)).symm
            obtain ⟨U, hU⟩ : ∃ U, T - S = U := ⟨_, rfl⟩
            have wU : IntKind.i64.wrap (T - S) = U := by rw [hU]; exact IntWalk.i64_in _ (by omega)
            have dT : decide (T < S) = false := decide_eq_false (by omega)
            rw [hT, hU] at kl
            clear hT hU b0 b1 b2 b3 HT2
            go_wp2_with fail
            refine (kt.out _ D.out).mono ?_
            rintro e v8 ⟨rfl, hb⟩
            have D := Lib.hid hb
            clear hb
            go_wp2_with fail
            refine (kl.out _ D.out).mono ?_
            rintro e v9 ⟨rfl, hb⟩
            have D := Lib.hid hb
            clear hb
            go_wp2_with fail
            go_roundw
            case rel => exact ⟨i + 1, G', S, X, by omega, by omega, rfl, rfl, by go_num, HT3, D⟩
            case measure => simp [intOf]; omega
        · have HT2 := Lib.hid (HT.out.got (n := Q) hz.out (by omega))
          obtain ⟨G2, hG2⟩ : ∃ G2, G' + Q = G2 := ⟨_, rfl⟩
          have wG2 : IntKind.i64.wrap (G' + Q) = G2 := by rw [hG2]; exact IntWalk.i64_in _ (by omega)
          rw [hG2] at HT2
          have ks : Hid (∀ U, Bx w [(pp, 48, laA X)] U → Calls Try.prog 12 #[ptr pp, .int .i64 Q] U (To (.int .i64 0) w [(pp, 48, laA (AmpM.got X Q))])) := Lib.hid (fun U h => by
            have := got_bx h 0 rfl Q
            rwa [gotE_is hz.out] at this)
          generalize AmpM.got X Q = Y at *
          clear hG2 c0 c1 c2 HT z1
          go_wp2_with fail
          refine (ks.out _ D.out).mono ?_
          rintro e v2 ⟨rfl, hb⟩
          have D := Lib.hid hb
          clear hb
          have HT3 : Hid (Thrice Y G2 S ((i + 1 : Nat) : Int)) := Lib.hid (by have := HT2.out; rwa [show ((i + 1 : Nat) : Int) = (i : Int) + 1 by omega])
          have b0 := HT2.out.s0
          have b1 := HT2.out.le
          have b2 := HT2.out.g1
          have b3 := HT2.out.m1
          have kt : Hid (∀ U, Bx w [(pp, 48, laA Y)] U → Calls Try.prog 22 #[ptr pp] U (To (.tuple #[.int .i64 G2, .int .i64 S]) w [(pp, 48, laA Y)])) := Lib.hid (fun U h => by
            have := totals_bx h 0 rfl
            rwa [HT2.out.i, HT2.out.o] at this)
          have kl : Hid (∀ U, Bx w [(pp, 48, laA Y)] U → Calls Try.prog 23 #[ptr pp] U (To (.int .i64 (3 * G2 - S)) w [(pp, 48, laA Y)])) := Lib.hid (fun U h => by
            have := left_bx h 0 rfl
            rwa [HT2.out.lft] at this)
          obtain ⟨T, hT⟩ : ∃ T, 3 * G2 = T := ⟨_, rfl⟩
          have wT : IntKind.i64.wrap (3 * G2) = T := by rw [hT]; exact IntWalk.i64_in _ (by omega)
          obtain ⟨U, hU⟩ : ∃ U, T - S = U := ⟨_, rfl⟩
          have wU : IntKind.i64.wrap (T - S) = U := by rw [hU]; exact IntWalk.i64_in _ (by omega)
          have dT : decide (T < S) = false := decide_eq_false (by omega)
          rw [hT, hU] at kl
          clear hT hU b0 b1 b2 b3 HT2
          go_wp2_with fail
          refine (kt.out _ D.out).mono ?_
          rintro e v8 ⟨rfl, hb⟩
          have D := Lib.hid hb
          clear hb
          go_wp2_with fail
          refine (kl.out _ D.out).mono ?_
          rintro e v9 ⟨rfl, hb⟩
          have D := Lib.hid hb
          clear hb
          go_wp2_with fail
          go_roundw
          case rel => exact ⟨i + 1, G2, S, Y, by omega, by omega, rfl, rfl, by go_num, HT3, D⟩
          case measure => simp [intOf]; omega
      · have hi2' : ¬ (i : Int) < 100 := by omega
        go_wp2_with fail
        go_ret
        exact ⟨rfl, D.out.K⟩
    · have hi1 : ¬ (i : Int) < (n : Int) := by omega
      go_wp2_with fail
      go_ret
      exact ⟨rfl, D.out.K⟩
end Go.Proofs.Ytfacacieegfopaa.Law
