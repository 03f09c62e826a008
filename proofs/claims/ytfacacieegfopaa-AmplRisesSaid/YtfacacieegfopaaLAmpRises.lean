/-
  The walk of the law AmplRises of layer 15.
-/
import Derived.Test.YtfacacieegfopaaAmpK
import Derived.Test.YtfacacieegfopaaNum
import Derived.Test.YtfacacieegfopaaOpen
namespace Go.Proofs.Ytfacacieegfopaa.Law
open Go.RowKit AmpM Wd Bxs Amp
set_option linter.unusedVariables false
set_option linter.unusedSimpArgs false

set_option maxRecDepth 100000 in
set_option maxHeartbeats 4000000 in
theorem amplRises_any (A0 : Option Addr) (n c : Nat) (f : Nat → Nat → Int) (a b : Int) (w : World) (h : Num.Grid 1 w A0 n c f) : Calls Try.prog 5 #[.slice A0 n c, .int .i64 a, .int .i64 b] w fun e w' => e = .returned (.bool true) ∧ Kept w w' := by
  have G := Lib.hid h
  have hn : n ≤ 9223372036854775807 := by have h1 := h.cap; have h2 := h.most; simp only [maxLen] at h2; omega
  clear h
  go_enter Try.func5, Try.ntmps5
  go_wp2_with fail
  refine (new_bx (Bx.nil w) false).mono ?_
  rintro e v1 ⟨pp, rfl, hb⟩
  have D : Hid (Bx w [(pp, 48, laA ⟨0, 0, false⟩)] v1) := Lib.hid hb
  clear hb
  go_wp2_with fail
  go_loopw [8] (fun s8 wr => ∃ (i : Nat) (G : Int), i ≤ n ∧ i ≤ 20 ∧ s8 = .int .i64 i ∧ Hid (0 ≤ G ∧ G ≤ 65535 * (i : Int)) ∧ Hid (Bx w [(pp, 48, laA ⟨G, 0, false⟩)] wr)) (fun s8 _ => 20 - (intOf s8).toNat)
  case atStart => exact ⟨0, 0, Nat.zero_le _, Nat.zero_le _, rfl, Lib.hid (by decide), D⟩
  case round =>
    obtain ⟨i, g0, hin, hi20, rfl, HT, HD⟩ := hrel
    clear D
    have D := HD
    clear HD
    by_cases hlt : i < n
    · have hi0 : (0 : Int) ≤ (i : Int) := by omega
      have hi1 : (i : Int) < (n : Int) := by omega
      by_cases hlt2 : i < 20
      · have hi2 : (i : Int) < 20 := by omega
        have hwi : IntKind.i64.wrap ((i : Int) + 1) = (i : Int) + 1 := IntWalk.i64_in _ (by omega)
        obtain ⟨g, o, rfl, hb, hc⟩ := G.out.lies (by omega)
        have e0 := hc i hlt 0 (by decide)
        clear hc hb
        rw [Nat.add_zero, Nat.mul_one] at e0
        have e1 : wr.cell? ⟨g, o + i, none⟩ = some (.int .i64 (f i 0)) := D.out.K.cell e0
        have kx := Lib.hid (fun W => size_any (f i 0) W)
        have hz := sz_mod (f i 0)
        generalize f i 0 % 65536 = Q at *
        generalize f i 0 = y at *
        have q0 := hz.1
        have q1 := hz.2
        have h0 := HT.out.1
        have h1 := HT.out.2
        have HT2 : Hid (0 ≤ g0 + Q ∧ g0 + Q ≤ 65535 * ((i + 1 : Nat) : Int)) := Lib.hid ⟨by omega, by omega⟩
        have ks : Hid (∀ U, Bx w [(pp, 48, laA ⟨g0, 0, false⟩)] U → Calls Try.prog 12 #[ptr pp, .int .i64 Q] U (To (.int .i64 0) w [(pp, 48, laA ⟨g0 + Q, 0, false⟩)])) := Lib.hid (fun U h => by
          have := got_bx h 0 rfl Q
          rwa [gotE_is hz, got_at hz h0 (by omega)] at this)
        generalize g0 + Q = G2 at *
        clear hz q0 q1 h0 h1 HT
        go_wp2_with fail
        refine (kx.out _).mono ?_
        rintro e w' ⟨rfl, rfl⟩
        go_wp2_with fail
        refine (ks.out _ D.out).mono ?_
        rintro e v2 ⟨rfl, hb⟩
        have D := Lib.hid hb
        clear hb
        go_wp2_with fail
        go_roundw
        case rel => exact ⟨i + 1, G2, by omega, by omega, by go_num, HT2, D⟩
        case measure => simp [intOf]; omega
      · have hi2' : ¬ (i : Int) < 20 := by omega
        have h0 := HT.out.1
        have h1 := HT.out.2
        have ka := Lib.hid (fun W => size_any a W)
        have kb := Lib.hid (fun W => size_any b W)
        have za := sz_mod a
        have zb := sz_mod b
        generalize a % 65536 = N at *
        generalize b % 65536 = M at *
        have n0 := za.1
        have n1 := za.2
        have p0 := zb.1
        have p1 := zb.2
        obtain ⟨W0, hW0⟩ : ∃ W0, 3 * g0 = W0 := ⟨_, rfl⟩
        obtain ⟨K, hK⟩ : ∃ K, min N W0 = K := ⟨_, rfl⟩
        have hsz : sz K := ⟨by omega, by omega⟩
        have r1 := rise_sent (g := g0) hsz (by omega) (by omega)
        have l0 : lft ⟨g0, 0, false⟩ = W0 := by rw [lft_at (by decide) (by omega) (by omega)]; omega
        have l1 : lft ⟨g0, K, false⟩ = W0 - K := by rw [lft_at (by omega) (by omega) (by omega)]; omega
        have l2 : lft ⟨g0 + M, K, false⟩ = W0 - K + 3 * M := by rw [lft_at (by omega) (by omega) (by omega)]; omega
        have k1 : Hid (∀ U, Bx w [(pp, 48, laA ⟨g0, 0, false⟩)] U → Calls Try.prog 23 #[ptr pp] U (To (.int .i64 W0) w [(pp, 48, laA ⟨g0, 0, false⟩)])) := Lib.hid (fun U h => by
          have := left_bx h 0 rfl
          rwa [l0] at this)
        have k2 : Hid (∀ U, Bx w [(pp, 48, laA ⟨g0, 0, false⟩)] U → Calls Try.prog 25 #[ptr pp, .int .i64 K] U (To (.bool true) w [(pp, 48, laA ⟨g0, 0, false⟩)])) := Lib.hid (fun U h => by
          have := can_bx h 0 rfl K
          rwa [can_true r1.1] at this)
        have k3 : Hid (∀ U, Bx w [(pp, 48, laA ⟨g0, 0, false⟩)] U → Calls Try.prog 14 #[ptr pp, .int .i64 K] U (To (.int .i64 0) w [(pp, 48, laA ⟨g0, K, false⟩)])) := Lib.hid (fun U h => by
          have := sent_bx h 0 rfl K
          rwa [r1.1, r1.2] at this)
        have k4 : Hid (∀ U, Bx w [(pp, 48, laA ⟨g0, K, false⟩)] U → Calls Try.prog 23 #[ptr pp] U (To (.int .i64 (W0 - K)) w [(pp, 48, laA ⟨g0, K, false⟩)])) := Lib.hid (fun U h => by
          have := left_bx h 0 rfl
          rwa [l1] at this)
        have k5 : Hid (∀ U, Bx w [(pp, 48, laA ⟨g0, K, false⟩)] U → Calls Try.prog 12 #[ptr pp, .int .i64 M] U (To (.int .i64 0) w [(pp, 48, laA ⟨g0 + M, K, false⟩)])) := Lib.hid (fun U h => by
          have := got_bx h 0 rfl M
          rwa [gotE_is zb, got_at zb h0 (by omega)] at this)
        have k6 : Hid (∀ U, Bx w [(pp, 48, laA ⟨g0 + M, K, false⟩)] U → Calls Try.prog 23 #[ptr pp] U (To (.int .i64 (W0 - K + 3 * M)) w [(pp, 48, laA ⟨g0 + M, K, false⟩)])) := Lib.hid (fun U h => by
          have := left_bx h 0 rfl
          rwa [l2] at this)
        obtain ⟨V, hV⟩ : ∃ V, W0 - K = V := ⟨_, rfl⟩
        obtain ⟨T, hT⟩ : ∃ T, 3 * M = T := ⟨_, rfl⟩
        obtain ⟨Z, hZ⟩ : ∃ Z, V + T = Z := ⟨_, rfl⟩
        have wV : IntKind.i64.wrap (W0 - K) = V := by rw [hV]; exact IntWalk.i64_in _ (by omega)
        have wT : IntKind.i64.wrap (3 * M) = T := by rw [hT]; exact IntWalk.i64_in _ (by omega)
        have wZ : IntKind.i64.wrap (V + T) = Z := by rw [hZ]; exact IntWalk.i64_in _ (by omega)
        rw [hV] at k4
        rw [hV, hT, hZ] at k6
        clear h0 h1 za zb n0 n1 p0 p1 hW0 hsz r1 l0 l1 l2 HT hV hT hZ
        go_wp2_with fail
        refine (k1.out _ D.out).mono ?_
        rintro e v2 ⟨rfl, hb⟩
        have D := Lib.hid hb
        clear hb
        go_wp2_with fail
        refine (ka.out _).mono ?_
        rintro e w' ⟨rfl, rfl⟩
        go_wp2_with fail
        refine (k2.out _ D.out).mono ?_
        rintro e v3 ⟨rfl, hb⟩
        have D := Lib.hid hb
        clear hb
        go_wp2_with fail
        refine (k3.out _ D.out).mono ?_
        rintro e v4 ⟨rfl, hb⟩
        have D := Lib.hid hb
        clear hb
        go_wp2_with fail
        refine (k4.out _ D.out).mono ?_
        rintro e v5 ⟨rfl, hb⟩
        have D := Lib.hid hb
        clear hb
        go_wp2_with fail
        refine (kb.out _).mono ?_
        rintro e w' ⟨rfl, rfl⟩
        go_wp2_with fail
        refine (k5.out _ D.out).mono ?_
        rintro e v6 ⟨rfl, hb⟩
        have D := Lib.hid hb
        clear hb
        go_wp2_with fail
        refine (k6.out _ D.out).mono ?_
        rintro e v7 ⟨rfl, hb⟩
        have D := Lib.hid hb
        clear hb
        go_wp2_with fail
        refine (works_bx D.out).mono ?_
        rintro e v90 ⟨rfl, hb⟩
        have D := Lib.hid hb
        go_wp2_with fail
        go_ret
        exact ⟨rfl, D.out.K⟩
    · have hi1 : ¬ (i : Int) < (n : Int) := by omega
      have h0 := HT.out.1
      have h1 := HT.out.2
      have ka := Lib.hid (fun W => size_any a W)
      have kb := Lib.hid (fun W => size_any b W)
      have za := sz_mod a
      have zb := sz_mod b
      generalize a % 65536 = N at *
      generalize b % 65536 = M at *
      have n0 := za.1
      have n1 := za.2
      have p0 := zb.1
      have p1 := zb.2
      obtain ⟨W0, hW0⟩ : ∃ W0, 3 * g0 = W0 := ⟨_, rfl⟩
      obtain ⟨K, hK⟩ : ∃ K, min N W0 = K := ⟨_, rfl⟩
      have hsz : sz K := ⟨by omega, by omega⟩
      have r1 := rise_sent (g := g0) hsz (by omega) (by omega)
      have l0 : lft ⟨g0, 0, false⟩ = W0 := by rw [lft_at (by decide) (by omega) (by omega)]; omega
      have l1 : lft ⟨g0, K, false⟩ = W0 - K := by rw [lft_at (by omega) (by omega) (by omega)]; omega
      have l2 : lft ⟨g0 + M, K, false⟩ = W0 - K + 3 * M := by rw [lft_at (by omega) (by omega) (by omega)]; omega
      have k1 : Hid (∀ U, Bx w [(pp, 48, laA ⟨g0, 0, false⟩)] U → Calls Try.prog 23 #[ptr pp] U (To (.int .i64 W0) w [(pp, 48, laA ⟨g0, 0, false⟩)])) := Lib.hid (fun U h => by
        have := left_bx h 0 rfl
        rwa [l0] at this)
      have k2 : Hid (∀ U, Bx w [(pp, 48, laA ⟨g0, 0, false⟩)] U → Calls Try.prog 25 #[ptr pp, .int .i64 K] U (To (.bool true) w [(pp, 48, laA ⟨g0, 0, false⟩)])) := Lib.hid (fun U h => by
        have := can_bx h 0 rfl K
        rwa [can_true r1.1] at this)
      have k3 : Hid (∀ U, Bx w [(pp, 48, laA ⟨g0, 0, false⟩)] U → Calls Try.prog 14 #[ptr pp, .int .i64 K] U (To (.int .i64 0) w [(pp, 48, laA ⟨g0, K, false⟩)])) := Lib.hid (fun U h => by
        have := sent_bx h 0 rfl K
        rwa [r1.1, r1.2] at this)
      have k4 : Hid (∀ U, Bx w [(pp, 48, laA ⟨g0, K, false⟩)] U → Calls Try.prog 23 #[ptr pp] U (To (.int .i64 (W0 - K)) w [(pp, 48, laA ⟨g0, K, false⟩)])) := Lib.hid (fun U h => by
        have := left_bx h 0 rfl
        rwa [l1] at this)
      have k5 : Hid (∀ U, Bx w [(pp, 48, laA ⟨g0, K, false⟩)] U → Calls Try.prog 12 #[ptr pp, .int .i64 M] U (To (.int .i64 0) w [(pp, 48, laA ⟨g0 + M, K, false⟩)])) := Lib.hid (fun U h => by
        have := got_bx h 0 rfl M
        rwa [gotE_is zb, got_at zb h0 (by omega)] at this)
      have k6 : Hid (∀ U, Bx w [(pp, 48, laA ⟨g0 + M, K, false⟩)] U → Calls Try.prog 23 #[ptr pp] U (To (.int .i64 (W0 - K + 3 * M)) w [(pp, 48, laA ⟨g0 + M, K, false⟩)])) := Lib.hid (fun U h => by
        have := left_bx h 0 rfl
        rwa [l2] at this)
      obtain ⟨V, hV⟩ : ∃ V, W0 - K = V := ⟨_, rfl⟩
      obtain ⟨T, hT⟩ : ∃ T, 3 * M = T := ⟨_, rfl⟩
      obtain ⟨Z, hZ⟩ : ∃ Z, V + T = Z := ⟨_, rfl⟩
      have wV : IntKind.i64.wrap (W0 - K) = V := by rw [hV]; exact IntWalk.i64_in _ (by omega)
      have wT : IntKind.i64.wrap (3 * M) = T := by rw [hT]; exact IntWalk.i64_in _ (by omega)
      have wZ : IntKind.i64.wrap (V + T) = Z := by rw [hZ]; exact IntWalk.i64_in _ (by omega)
      rw [hV] at k4
      rw [hV, hT, hZ] at k6
      clear h0 h1 za zb n0 n1 p0 p1 hW0 hsz r1 l0 l1 l2 HT hV hT hZ
      go_wp2_with fail
      refine (k1.out _ D.out).mono ?_
      rintro e v2 ⟨rfl, hb⟩
      have D := Lib.hid hb
      clear hb
      go_wp2_with fail
      refine (ka.out _).mono ?_
      rintro e w' ⟨rfl, rfl⟩
      go_wp2_with fail
      refine (k2.out _ D.out).mono ?_
      rintro e v3 ⟨rfl, hb⟩
      have D := Lib.hid hb
      clear hb
      go_wp2_with fail
      refine (k3.out _ D.out).mono ?_
      rintro e v4 ⟨rfl, hb⟩
      have D := Lib.hid hb
      clear hb
      go_wp2_with fail
      refine (k4.out _ D.out).mono ?_
      rintro e v5 ⟨rfl, hb⟩
      have D := Lib.hid hb
      clear hb
      go_wp2_with fail
      refine (kb.out _).mono ?_
      rintro e w' ⟨rfl, rfl⟩
      go_wp2_with fail
      refine (k5.out _ D.out).mono ?_
      rintro e v6 ⟨rfl, hb⟩
      have D := Lib.hid hb
      clear hb
      go_wp2_with fail
      refine (k6.out _ D.out).mono ?_
      rintro e v7 ⟨rfl, hb⟩
      have D := Lib.hid hb
      clear hb
      go_wp2_with fail
      refine (works_bx D.out).mono ?_
      rintro e v90 ⟨rfl, hb⟩
      have D := Lib.hid hb
      go_wp2_with fail
      go_ret
      exact ⟨rfl, D.out.K⟩
end Go.Proofs.Ytfacacieegfopaa.Law
