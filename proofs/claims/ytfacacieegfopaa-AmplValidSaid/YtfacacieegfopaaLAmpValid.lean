/-
  The walk of the law AmplValid of layer 15.
-/
import Derived.Test.YtfacacieegfopaaAmpK
import Derived.Test.YtfacacieegfopaaNum
import Derived.Test.YtfacacieegfopaaOpen
namespace Go.Proofs.Ytfacacieegfopaa.Law
open Go.RowKit AmpM Wd Bxs Amp
set_option linter.unusedVariables false
set_option linter.unusedSimpArgs false

set_option maxRecDepth 100000 in
set_option maxHeartbeats 4000000 in
theorem amplValid_any (A0 : Option Addr) (n c : Nat) (f : Nat → Nat → Int) (A1 : Option Addr) (m c' : Nat) (f' : Nat → Nat → Int) (w : World) (h : Num.Grid 1 w A0 n c f) (h' : Num.Grid 1 w A1 m c' f') : Calls Try.prog 6 #[.slice A0 n c, .slice A1 m c'] w fun e w' => e = .returned (.bool true) ∧ Kept w w' := by
  have G := Lib.hid h
  have hn : n ≤ 9223372036854775807 := by have h1 := h.cap; have h2 := h.most; simp only [maxLen] at h2; omega
  clear h
  have G' := Lib.hid h'
  have hm : m ≤ 9223372036854775807 := by have h1 := h'.cap; have h2 := h'.most; simp only [maxLen] at h2; omega
  clear h'
  go_enter Try.func6, Try.ntmps6
  go_wp2_with fail
  refine (new_bx (Bx.nil w) false).mono ?_
  rintro e v1 ⟨pp, rfl, hb⟩
  have D : Hid (Bx w [(pp, 48, laA (AmpM.new false))] v1) := Lib.hid hb
  clear hb
  go_wp2_with fail
  go_loopw [6] (fun s6 wr => ∃ (i : Nat) (X : Lm), i ≤ n ∧ i ≤ 30 ∧ s6 = .int .i64 i ∧ Hid (0 ≤ X.o ∧ X.o ≤ 65535 * (i : Int) ∧ X.v = false) ∧ Hid (Bx w [(pp, 48, laA X)] wr)) (fun s6 _ => 30 - (intOf s6).toNat)
  case atStart => exact ⟨0, AmpM.new false, Nat.zero_le _, Nat.zero_le _, rfl, Lib.hid (by decide), D⟩
  case round =>
    obtain ⟨i, X, hin, hi30, rfl, HT, HD⟩ := hrel
    clear D
    have D := HD
    clear HD
    by_cases hlt : i < n
    · have hi0 : (0 : Int) ≤ (i : Int) := by omega
      have hi1 : (i : Int) < (n : Int) := by omega
      by_cases hlt2 : i < 30
      · have hi2 : (i : Int) < 30 := by omega
        have hwi : IntKind.i64.wrap ((i : Int) + 1) = (i : Int) + 1 := IntWalk.i64_in _ (by omega)
        obtain ⟨g, o, rfl, hb, hc⟩ := G.out.lies (by omega)
        have e0 := hc i hlt 0 (by decide)
        clear hc hb
        rw [Nat.add_zero, Nat.mul_one] at e0
        have e1 : wr.cell? ⟨g, o + i, none⟩ = some (.int .i64 (f i 0)) := D.out.K.cell e0
        have HC := Lib.hid e0
        clear e0
        have kx := Lib.hid (fun W => size_any (f i 0) W)
        generalize f i 0 % 65536 = Q at *
        generalize f i 0 = y at *
        obtain ⟨u, hu⟩ : ∃ u, IntKind.i64.wrap (y.tdiv 2) = u := ⟨_, rfl⟩
        have ky := Lib.hid (fun W => size_any u W)
        generalize u % 65536 = Q2 at *
        have g1 := got_ov X Q
        have HT2 : Hid (0 ≤ (AmpM.sent (AmpM.got X Q) Q2).o ∧ (AmpM.sent (AmpM.got X Q) Q2).o ≤ 65535 * ((i + 1 : Nat) : Int) ∧ (AmpM.sent (AmpM.got X Q) Q2).v = false) := by
          have h0 := HT.out.1
          have h1 := HT.out.2.1
          have := sent_o (x := AmpM.got X Q) (n := Q2) (m := 65535 * (i : Int)) (by rw [g1.1]; exact h0) (by rw [g1.1]; exact h1) (by omega)
          exact Lib.hid ⟨this.1, by have := this.2.1; omega, by rw [this.2.2, g1.2]; exact HT.out.2.2⟩
        clear g1
        have ks : Hid (∀ U, Bx w [(pp, 48, laA X)] U → Calls Try.prog 12 #[ptr pp, .int .i64 Q] U (To (.int .i64 (gotE Q)) w [(pp, 48, laA (AmpM.got X Q))])) := Lib.hid (fun U h => got_bx h 0 rfl Q)
        generalize gotE Q = E1 at *
        generalize AmpM.got X Q = Y at *
        have kt : Hid (∀ U, Bx w [(pp, 48, laA Y)] U → Calls Try.prog 14 #[ptr pp, .int .i64 Q2] U (To (.int .i64 (sentE Y Q2)) w [(pp, 48, laA (AmpM.sent Y Q2))])) := Lib.hid (fun U h => sent_bx h 0 rfl Q2)
        generalize sentE Y Q2 = E2 at *
        generalize AmpM.sent Y Q2 = Z at *
        go_wp2_with fail
        refine (kx.out _).mono ?_
        rintro e w' ⟨rfl, rfl⟩
        go_wp2_with fail
        refine (ks.out _ D.out).mono ?_
        rintro e v2 ⟨rfl, hb⟩
        have D := Lib.hid hb
        clear hb
        clear e1
        have e1 := D.out.K.cell HC.out
        go_wp2_with fail
        refine (ky.out _).mono ?_
        rintro e w' ⟨rfl, rfl⟩
        go_wp2_with fail
        refine (kt.out _ D.out).mono ?_
        rintro e v3 ⟨rfl, hb⟩
        have D := Lib.hid hb
        clear hb
        go_wp2_with fail
        go_roundw
        case rel => exact ⟨i + 1, Z, by omega, by omega, by go_num, HT2, D⟩
        case measure => simp [intOf]; omega
      · have hi2' : ¬ (i : Int) < 30 := by omega
        obtain ⟨I, O, b⟩ := X
        have h0 : 0 ≤ O := HT.out.1
        have h1 : O ≤ 65535 * (i : Int) := HT.out.2.1
        have h2 : b = false := HT.out.2.2
        subst h2
        clear HT
        have HS : Hid (0 ≤ O ∧ O ≤ 65535 * (30 + ((0 : Nat) : Int))) := Lib.hid ⟨h0, by omega⟩
        clear h0 h1
        have k1 : Hid (∀ U, Bx w [(pp, 48, laA ⟨I, O, false⟩)] U → Calls Try.prog 22 #[ptr pp] U (To (.tuple #[.int .i64 I, .int .i64 O]) w [(pp, 48, laA ⟨I, O, false⟩)])) := Lib.hid (fun U h => by
          have := totals_bx h 0 rfl
          exact this)
        have k2 : Hid (∀ U, Bx w [(pp, 48, laA ⟨I, O, false⟩)] U → Calls Try.prog 26 #[ptr pp] U (To (.bool false) w [(pp, 48, laA ⟨I, O, false⟩)])) := Lib.hid (fun U h => by
          have := valid_bx h 0 rfl
          exact this)
        have k3 : Hid (∀ U, Bx w [(pp, 48, laA ⟨I, O, false⟩)] U → Calls Try.prog 19 #[ptr pp] U (To (.int .i64 0) w [(pp, 48, laA ⟨I, O, true⟩)])) := Lib.hid (fun U h => by
          have := validate_bx h 0 rfl
          exact this)
        have k4 : Hid (∀ U, Bx w [(pp, 48, laA ⟨I, O, true⟩)] U → Calls Try.prog 26 #[ptr pp] U (To (.bool true) w [(pp, 48, laA ⟨I, O, true⟩)])) := Lib.hid (fun U h => by
          have := valid_bx h 0 rfl
          exact this)
        go_wp2_with fail
        refine (k1.out _ D.out).mono ?_
        rintro e v2 ⟨rfl, hb⟩
        have D := Lib.hid hb
        clear hb
        go_wp2_with fail
        refine (k2.out _ D.out).mono ?_
        rintro e v3 ⟨rfl, hb⟩
        have D := Lib.hid hb
        clear hb
        go_wp2_with fail
        refine (k3.out _ D.out).mono ?_
        rintro e v4 ⟨rfl, hb⟩
        have D := Lib.hid hb
        clear hb
        go_wp2_with fail
        refine (k4.out _ D.out).mono ?_
        rintro e v5 ⟨rfl, hb⟩
        have D := Lib.hid hb
        clear hb
        go_wp2_with fail
        clear k1 k2 k3 k4
        go_loopw [8, 9] (fun s8 s9 wr => ∃ (i : Nat) (W : Int), i ≤ m ∧ i ≤ 30 ∧ s8 = .int .i64 W ∧ s9 = .int .i64 i ∧ Hid (0 ≤ W ∧ W ≤ 65535 * (30 + (i : Int))) ∧ Hid (Bx w [(pp, 48, laA ⟨I, W, true⟩)] wr)) (fun _ s9 _ => 30 - (intOf s9).toNat)
        case atStart => exact ⟨0, O, Nat.zero_le _, Nat.zero_le _, rfl, rfl, HS, D⟩
        case round =>
          obtain ⟨i, W, hin, hi30, rfl, rfl, HT, HD⟩ := hrel
          clear D HS
          have D := HD
          clear HD
          by_cases hlt : i < m
          · have hi0 : (0 : Int) ≤ (i : Int) := by omega
            have hi1 : (i : Int) < (m : Int) := by omega
            by_cases hlt2 : i < 30
            · have hi2 : (i : Int) < 30 := by omega
              have hwi : IntKind.i64.wrap ((i : Int) + 1) = (i : Int) + 1 := IntWalk.i64_in _ (by omega)
              obtain ⟨g, o, rfl, hb, hc⟩ := G'.out.lies (by omega)
              have e0 := hc i hlt 0 (by decide)
              clear hc hb
              rw [Nat.add_zero, Nat.mul_one] at e0
              have e1 : wr.cell? ⟨g, o + i, none⟩ = some (.int .i64 (f' i 0)) := D.out.K.cell e0
              have kx := Lib.hid (fun W => size_any (f' i 0) W)
              have hz := sz_mod (f' i 0)
              generalize f' i 0 % 65536 = Q at *
              generalize f' i 0 = y at *
              have q0 := hz.1
              have q1 := hz.2
              have h0 := HT.out.1
              have h1 := HT.out.2
              have HT2 : Hid (0 ≤ W + Q ∧ W + Q ≤ 65535 * (30 + ((i + 1 : Nat) : Int))) := Lib.hid ⟨by omega, by omega⟩
              obtain ⟨W2, hW2⟩ : ∃ W2, W + Q = W2 := ⟨_, rfl⟩
              have wW : IntKind.i64.wrap (W + Q) = W2 := by rw [hW2]; exact IntWalk.i64_in _ (by omega)
              have k1 : Hid (∀ U, Bx w [(pp, 48, laA ⟨I, W, true⟩)] U → Calls Try.prog 25 #[ptr pp, .int .i64 Q] U (To (.bool true) w [(pp, 48, laA ⟨I, W, true⟩)])) := Lib.hid (fun U h => by
                have := can_bx h 0 rfl Q
                rwa [can_valid hz] at this)
              have k2 : Hid (∀ U, Bx w [(pp, 48, laA ⟨I, W, true⟩)] U → Calls Try.prog 14 #[ptr pp, .int .i64 Q] U (To (.int .i64 0) w [(pp, 48, laA ⟨I, W + Q, true⟩)])) := Lib.hid (fun U h => by
                have := sent_bx h 0 rfl Q
                rwa [sentE_valid hz, sent_valid hz h0 (by omega)] at this)
              clear hz q0 q1 h0 h1 HT
              rw [hW2] at HT2 k2
              clear hW2
              go_wp2_with fail
              refine (kx.out _).mono ?_
              rintro e w' ⟨rfl, rfl⟩
              go_wp2_with fail
              refine (k1.out _ D.out).mono ?_
              rintro e v5 ⟨rfl, hb⟩
              have D := Lib.hid hb
              clear hb
              go_wp2_with fail
              refine (k2.out _ D.out).mono ?_
              rintro e v6 ⟨rfl, hb⟩
              have D := Lib.hid hb
              clear hb
              go_wp2_with fail
              go_roundw
              case rel => exact ⟨i + 1, W2, by omega, by omega, rfl, by go_num, HT2, D⟩
              case measure => simp [intOf]; omega
            · have hi2' : ¬ (i : Int) < 30 := by omega
              have k1 : Hid (∀ U, Bx w [(pp, 48, laA ⟨I, W, true⟩)] U → Calls Try.prog 22 #[ptr pp] U (To (.tuple #[.int .i64 I, .int .i64 W]) w [(pp, 48, laA ⟨I, W, true⟩)])) := Lib.hid (fun U h => by
                have := totals_bx h 0 rfl
                exact this)
              have k2 : Hid (∀ U, Bx w [(pp, 48, laA ⟨I, W, true⟩)] U → Calls Try.prog 25 #[ptr pp, .int .i64 65535] U (To (.bool true) w [(pp, 48, laA ⟨I, W, true⟩)])) := Lib.hid (fun U h => by
                have := can_bx h 0 rfl 65535
                rwa [can_valid (by decide)] at this)
              have k3 : Hid (∀ U, Bx w [(pp, 48, laA ⟨I, W, true⟩)] U → Calls Try.prog 25 #[ptr pp, .int .i64 65536] U (To (.bool false) w [(pp, 48, laA ⟨I, W, true⟩)])) := Lib.hid (fun U h => by
                have := can_bx h 0 rfl 65536
                rwa [can_over] at this)
              go_wp2_with fail
              refine (k1.out _ D.out).mono ?_
              rintro e v5 ⟨rfl, hb⟩
              have D := Lib.hid hb
              clear hb
              go_wp2_with fail
              refine (k2.out _ D.out).mono ?_
              rintro e v6 ⟨rfl, hb⟩
              have D := Lib.hid hb
              clear hb
              go_wp2_with fail
              refine (k3.out _ D.out).mono ?_
              rintro e v7 ⟨rfl, hb⟩
              have D := Lib.hid hb
              clear hb
              go_wp2_with fail
              refine (works_bx D.out).mono ?_
              rintro e v90 ⟨rfl, hb⟩
              have D := Lib.hid hb
              go_wp2_with fail
              go_ret
              exact ⟨rfl, D.out.K⟩
          · have hi1 : ¬ (i : Int) < (m : Int) := by omega
            have k1 : Hid (∀ U, Bx w [(pp, 48, laA ⟨I, W, true⟩)] U → Calls Try.prog 22 #[ptr pp] U (To (.tuple #[.int .i64 I, .int .i64 W]) w [(pp, 48, laA ⟨I, W, true⟩)])) := Lib.hid (fun U h => by
              have := totals_bx h 0 rfl
              exact this)
            have k2 : Hid (∀ U, Bx w [(pp, 48, laA ⟨I, W, true⟩)] U → Calls Try.prog 25 #[ptr pp, .int .i64 65535] U (To (.bool true) w [(pp, 48, laA ⟨I, W, true⟩)])) := Lib.hid (fun U h => by
              have := can_bx h 0 rfl 65535
              rwa [can_valid (by decide)] at this)
            have k3 : Hid (∀ U, Bx w [(pp, 48, laA ⟨I, W, true⟩)] U → Calls Try.prog 25 #[ptr pp, .int .i64 65536] U (To (.bool false) w [(pp, 48, laA ⟨I, W, true⟩)])) := Lib.hid (fun U h => by
              have := can_bx h 0 rfl 65536
              rwa [can_over] at this)
            go_wp2_with fail
            refine (k1.out _ D.out).mono ?_
            rintro e v5 ⟨rfl, hb⟩
            have D := Lib.hid hb
            clear hb
            go_wp2_with fail
            refine (k2.out _ D.out).mono ?_
            rintro e v6 ⟨rfl, hb⟩
            have D := Lib.hid hb
            clear hb
            go_wp2_with fail
            refine (k3.out _ D.out).mono ?_
            rintro e v7 ⟨rfl, hb⟩
            have D := Lib.hid hb
            clear hb
            go_wp2_with fail
            refine (works_bx D.out).mono ?_
            rintro e v90 ⟨rfl, hb⟩
            have D := Lib.hid hb
            go_wp2_with fail
            go_ret
            exact ⟨rfl, D.out.K⟩
    · have hi1 : ¬ (i : Int) < (n : Int) := by omega
      obtain ⟨I, O, b⟩ := X
      have h0 : 0 ≤ O := HT.out.1
      have h1 : O ≤ 65535 * (i : Int) := HT.out.2.1
      have h2 : b = false := HT.out.2.2
      subst h2
      clear HT
      have HS : Hid (0 ≤ O ∧ O ≤ 65535 * (30 + ((0 : Nat) : Int))) := Lib.hid ⟨h0, by omega⟩
      clear h0 h1
      have k1 : Hid (∀ U, Bx w [(pp, 48, laA ⟨I, O, false⟩)] U → Calls Try.prog 22 #[ptr pp] U (To (.tuple #[.int .i64 I, .int .i64 O]) w [(pp, 48, laA ⟨I, O, false⟩)])) := Lib.hid (fun U h => by
        have := totals_bx h 0 rfl
        exact this)
      have k2 : Hid (∀ U, Bx w [(pp, 48, laA ⟨I, O, false⟩)] U → Calls Try.prog 26 #[ptr pp] U (To (.bool false) w [(pp, 48, laA ⟨I, O, false⟩)])) := Lib.hid (fun U h => by
        have := valid_bx h 0 rfl
        exact this)
      have k3 : Hid (∀ U, Bx w [(pp, 48, laA ⟨I, O, false⟩)] U → Calls Try.prog 19 #[ptr pp] U (To (.int .i64 0) w [(pp, 48, laA ⟨I, O, true⟩)])) := Lib.hid (fun U h => by
        have := validate_bx h 0 rfl
        exact this)
      have k4 : Hid (∀ U, Bx w [(pp, 48, laA ⟨I, O, true⟩)] U → Calls Try.prog 26 #[ptr pp] U (To (.bool true) w [(pp, 48, laA ⟨I, O, true⟩)])) := Lib.hid (fun U h => by
        have := valid_bx h 0 rfl
        exact this)
      go_wp2_with fail
      refine (k1.out _ D.out).mono ?_
      rintro e v2 ⟨rfl, hb⟩
      have D := Lib.hid hb
      clear hb
      go_wp2_with fail
      refine (k2.out _ D.out).mono ?_
      rintro e v3 ⟨rfl, hb⟩
      have D := Lib.hid hb
      clear hb
      go_wp2_with fail
      refine (k3.out _ D.out).mono ?_
      rintro e v4 ⟨rfl, hb⟩
      have D := Lib.hid hb
      clear hb
      go_wp2_with fail
      refine (k4.out _ D.out).mono ?_
      rintro e v5 ⟨rfl, hb⟩
      have D := Lib.hid hb
      clear hb
      go_wp2_with fail
      clear k1 k2 k3 k4
      go_loopw [8, 9] (fun s8 s9 wr => ∃ (i : Nat) (W : Int), i ≤ m ∧ i ≤ 30 ∧ s8 = .int .i64 W ∧ s9 = .int .i64 i ∧ Hid (0 ≤ W ∧ W ≤ 65535 * (30 + (i : Int))) ∧ Hid (Bx w [(pp, 48, laA ⟨I, W, true⟩)] wr)) (fun _ s9 _ => 30 - (intOf s9).toNat)
      case atStart => exact ⟨0, O, Nat.zero_le _, Nat.zero_le _, rfl, rfl, HS, D⟩
      case round =>
        obtain ⟨i, W, hin, hi30, rfl, rfl, HT, HD⟩ := hrel
        clear D HS
        have D := HD
        clear HD
        by_cases hlt : i < m
        · have hi0 : (0 : Int) ≤ (i : Int) := by omega
          have hi1 : (i : Int) < (m : Int) := by omega
          by_cases hlt2 : i < 30
          · have hi2 : (i : Int) < 30 := by omega
            have hwi : IntKind.i64.wrap ((i : Int) + 1) = (i : Int) + 1 := IntWalk.i64_in _ (by omega)
            obtain ⟨g, o, rfl, hb, hc⟩ := G'.out.lies (by omega)
            have e0 := hc i hlt 0 (by decide)
            clear hc hb
            rw [Nat.add_zero, Nat.mul_one] at e0
            have e1 : wr.cell? ⟨g, o + i, none⟩ = some (.int .i64 (f' i 0)) := D.out.K.cell e0
            have kx := Lib.hid (fun W => size_any (f' i 0) W)
            have hz := sz_mod (f' i 0)
            generalize f' i 0 % 65536 = Q at *
            generalize f' i 0 = y at *
            have q0 := hz.1
            have q1 := hz.2
            have h0 := HT.out.1
            have h1 := HT.out.2
            have HT2 : Hid (0 ≤ W + Q ∧ W + Q ≤ 65535 * (30 + ((i + 1 : Nat) : Int))) := Lib.hid ⟨by omega, by omega⟩
            obtain ⟨W2, hW2⟩ : ∃ W2, W + Q = W2 := ⟨_, rfl⟩
            have wW : IntKind.i64.wrap (W + Q) = W2 := by rw [hW2]; exact IntWalk.i64_in _ (by omega)
            have k1 : Hid (∀ U, Bx w [(pp, 48, laA ⟨I, W, true⟩)] U → Calls Try.prog 25 #[ptr pp, .int .i64 Q] U (To (.bool true) w [(pp, 48, laA ⟨I, W, true⟩)])) := Lib.hid (fun U h => by
              have := can_bx h 0 rfl Q
              rwa [can_valid hz] at this)
            have k2 : Hid (∀ U, Bx w [(pp, 48, laA ⟨I, W, true⟩)] U → Calls Try.prog 14 #[ptr pp, .int .i64 Q] U (To (.int .i64 0) w [(pp, 48, laA ⟨I, W + Q, true⟩)])) := Lib.hid (fun U h => by
              have := sent_bx h 0 rfl Q
              rwa [sentE_valid hz, sent_valid hz h0 (by omega)] at this)
            clear hz q0 q1 h0 h1 HT
            rw [hW2] at HT2 k2
            clear hW2
            go_wp2_with fail
            refine (kx.out _).mono ?_
            rintro e w' ⟨rfl, rfl⟩
            go_wp2_with fail
            refine (k1.out _ D.out).mono ?_
            rintro e v5 ⟨rfl, hb⟩
            have D := Lib.hid hb
            clear hb
            go_wp2_with fail
            refine (k2.out _ D.out).mono ?_
            rintro e v6 ⟨rfl, hb⟩
            have D := Lib.hid hb
            clear hb
            go_wp2_with fail
            go_roundw
            case rel => exact ⟨i + 1, W2, by omega, by omega, rfl, by go_num, HT2, D⟩
            case measure => simp [intOf]; omega
          · have hi2' : ¬ (i : Int) < 30 := by omega
            have k1 : Hid (∀ U, Bx w [(pp, 48, laA ⟨I, W, true⟩)] U → Calls Try.prog 22 #[ptr pp] U (To (.tuple #[.int .i64 I, .int .i64 W]) w [(pp, 48, laA ⟨I, W, true⟩)])) := Lib.hid (fun U h => by
              have := totals_bx h 0 rfl
              exact this)
            have k2 : Hid (∀ U, Bx w [(pp, 48, laA ⟨I, W, true⟩)] U → Calls Try.prog 25 #[ptr pp, .int .i64 65535] U (To (.bool true) w [(pp, 48, laA ⟨I, W, true⟩)])) := Lib.hid (fun U h => by
              have := can_bx h 0 rfl 65535
              rwa [can_valid (by decide)] at this)
            have k3 : Hid (∀ U, Bx w [(pp, 48, laA ⟨I, W, true⟩)] U → Calls Try.prog 25 #[ptr pp, .int .i64 65536] U (To (.bool false) w [(pp, 48, laA ⟨I, W, true⟩)])) := Lib.hid (fun U h => by
              have := can_bx h 0 rfl 65536
              rwa [can_over] at this)
            go_wp2_with fail
            refine (k1.out _ D.out).mono ?_
            rintro e v5 ⟨rfl, hb⟩
            have D := Lib.hid hb
            clear hb
            go_wp2_with fail
            refine (k2.out _ D.out).mono ?_
            rintro e v6 ⟨rfl, hb⟩
            have D := Lib.hid hb
            clear hb
            go_wp2_with fail
            refine (k3.out _ D.out).mono ?_
            rintro e v7 ⟨rfl, hb⟩
            have D := Lib.hid hb
            clear hb
            go_wp2_with fail
            refine (works_bx D.out).mono ?_
            rintro e v90 ⟨rfl, hb⟩
            have D := Lib.hid hb
            go_wp2_with fail
            go_ret
            exact ⟨rfl, D.out.K⟩
        · have hi1 : ¬ (i : Int) < (m : Int) := by omega
          have k1 : Hid (∀ U, Bx w [(pp, 48, laA ⟨I, W, true⟩)] U → Calls Try.prog 22 #[ptr pp] U (To (.tuple #[.int .i64 I, .int .i64 W]) w [(pp, 48, laA ⟨I, W, true⟩)])) := Lib.hid (fun U h => by
            have := totals_bx h 0 rfl
            exact this)
          have k2 : Hid (∀ U, Bx w [(pp, 48, laA ⟨I, W, true⟩)] U → Calls Try.prog 25 #[ptr pp, .int .i64 65535] U (To (.bool true) w [(pp, 48, laA ⟨I, W, true⟩)])) := Lib.hid (fun U h => by
            have := can_bx h 0 rfl 65535
            rwa [can_valid (by decide)] at this)
          have k3 : Hid (∀ U, Bx w [(pp, 48, laA ⟨I, W, true⟩)] U → Calls Try.prog 25 #[ptr pp, .int .i64 65536] U (To (.bool false) w [(pp, 48, laA ⟨I, W, true⟩)])) := Lib.hid (fun U h => by
            have := can_bx h 0 rfl 65536
            rwa [can_over] at this)
          go_wp2_with fail
          refine (k1.out _ D.out).mono ?_
          rintro e v5 ⟨rfl, hb⟩
          have D := Lib.hid hb
          clear hb
          go_wp2_with fail
          refine (k2.out _ D.out).mono ?_
          rintro e v6 ⟨rfl, hb⟩
          have D := Lib.hid hb
          clear hb
          go_wp2_with fail
          refine (k3.out _ D.out).mono ?_
          rintro e v7 ⟨rfl, hb⟩
          have D := Lib.hid hb
          clear hb
          go_wp2_with fail
          refine (works_bx D.out).mono ?_
          rintro e v90 ⟨rfl, hb⟩
          have D := Lib.hid hb
          go_wp2_with fail
          go_ret
          exact ⟨rfl, D.out.K⟩
end Go.Proofs.Ytfacacieegfopaa.Law
