/-
  The walk of the law AmplOrder of layer 15.
-/
import Derived.Test.YtfacacieegfopaaAmpK
import Derived.Test.YtfacacieegfopaaNum
import Derived.Test.YtfacacieegfopaaOpen
namespace Go.Proofs.Ytfacacieegfopaa.Law
open Go.RowKit AmpM Wd Bxs Amp
set_option linter.unusedVariables false
set_option linter.unusedSimpArgs false

set_option maxRecDepth 100000 in
set_option maxHeartbeats 4000000 in
theorem amplOrder_any (A0 : Option Addr) (n c : Nat) (f : Nat → Nat → Int) (w : World) (h : Num.Grid 1 w A0 n c f) : Calls Try.prog 7 #[.slice A0 n c] w fun e w' => e = .returned (.bool true) ∧ Kept w w' := by
  have hcap := h.cap
  have hmost := h.most
  unfold maxLen at hmost
  obtain ⟨N, hN⟩ : ∃ N : Nat, (min (n : Int) 40).toNat = N := ⟨_, rfl⟩
  have hN40 : N ≤ 40 := by omega
  have hNn : N ≤ n := by omega
  have HN := Lib.hid hN
  clear hN
  have G := Lib.hid (h.upto N hNn)
  clear h
  obtain ⟨g, hg⟩ : ∃ g : Nat → Int, ∀ j, f j 0 % 65536 = g j := ⟨_, fun _ => rfl⟩
  obtain ⟨u, hu⟩ : ∃ u : Nat → Int, ∀ j, IntKind.i64.wrap ((f j 0).tdiv 3) = u j := ⟨_, fun _ => rfl⟩
  obtain ⟨q, hq⟩ : ∃ q : Nat → Int, ∀ j, u j % 65536 = q j := ⟨_, fun _ => rfl⟩
  have Hg : Hid (∀ j, sz (g j)) := Lib.hid (fun j => by rw [← hg j]; exact sz_mod _)
  have Hq : Hid (∀ j, sz (q j)) := Lib.hid (fun j => by rw [← hq j]; exact sz_mod _)
  have Kg : Hid (∀ j W, Calls Try.prog 24 #[.int .i64 (f j 0)] W (Same (.int .i64 (g j)) W)) := Lib.hid (fun j W => by rw [← hg j]; exact size_any _ W)
  have Kq : Hid (∀ j W, Calls Try.prog 24 #[.int .i64 (u j)] W (Same (.int .i64 (q j)) W)) := Lib.hid (fun j W => by rw [← hq j]; exact size_any _ W)
  have HU := Lib.hid hu
  clear hg hu hq
  obtain ⟨g', hg'⟩ : ∃ g' : Nat → Int, g' = fun i => g (N - 1 - i) := ⟨_, rfl⟩
  obtain ⟨q', hq'⟩ : ∃ q' : Nat → Int, q' = fun i => q (N - 1 - i) := ⟨_, rfl⟩
  have Rg := Lib.hid (show su g' N = su g N by rw [hg']; exact su_rev g N)
  have Rq := Lib.hid (show su q' N = su q N by rw [hq']; exact su_rev q N)
  have Eg := Lib.hid (show ∀ i, g' i = g (N - 1 - i) from fun i => by rw [hg'])
  have Eq := Lib.hid (show ∀ i, q' i = q (N - 1 - i) from fun i => by rw [hq'])
  clear hg' hq'
  have Hg' : Hid (∀ j, sz (g' j)) := Lib.hid (fun j => by rw [Eg.out j]; exact Hg.out _)
  have Hq' : Hid (∀ j, sz (q' j)) := Lib.hid (fun j => by rw [Eq.out j]; exact Hq.out _)
  go_enter Try.func7, Try.ntmps7
  go_wp2_with fail
  refine (new_bx (Bx.nil w) true).mono ?_
  rintro e v1 ⟨aa, rfl, hb⟩
  have D : Hid (Bx w [(aa, 48, laA (AmpM.new true))] v1) := Lib.hid hb
  clear hb
  go_wp2_with fail
  refine (new_bx D.out true).mono ?_
  rintro e v2 ⟨bb, rfl, hb⟩
  have D : Hid (Bx w [(aa, 48, laA ⟨0, 0, true⟩), (bb, 48, laA ⟨0, 0, true⟩)] v2) := Lib.hid hb.swap
  clear hb
  go_upto_region 2 with (fail)
  go_cut [0] (fun s0 wx => s0 = .slice A0 N c ∧ Hid (Bx w [(aa, 48, laA ⟨0, 0, true⟩), (bb, 48, laA ⟨0, 0, true⟩)] wx))
  case first =>
    go_wp2_with fail
    go_meet
    exact ⟨by rw [HN.out], D⟩
  case rest =>
  obtain ⟨rfl, HD⟩ := hcut
  clear D HN hcap hmost hNn
  have D := HD
  clear HD
  go_wp2_with fail
  go_loopw [5] (fun s5 wr => ∃ (i : Nat) (A B C E : Int), i ≤ N ∧ s5 = .int .i64 i ∧ Hid (A = su g i ∧ B = su q i ∧ C = su g' i ∧ E = su q' i) ∧ Hid (Bx w [(aa, 48, laA ⟨A, B, true⟩), (bb, 48, laA ⟨C, E, true⟩)] wr)) (fun s5 _ => N - (intOf s5).toNat)
  case atStart => exact ⟨0, 0, 0, 0, 0, Nat.zero_le _, rfl, Lib.hid ⟨rfl, rfl, rfl, rfl⟩, D⟩
  case round =>
    obtain ⟨i, A, B, C, E, hin, rfl, HT, HD⟩ := hrel
    clear D
    have D := HD
    clear HD
    by_cases hlt : i < N
    · have hi0 : (0 : Int) ≤ (i : Int) := by omega
      have hi1 : (i : Int) < (N : Int) := by omega
      have hwi : IntKind.i64.wrap ((i : Int) + 1) = (i : Int) + 1 := IntWalk.i64_in _ (by omega)
      obtain ⟨k, hk⟩ : ∃ k : Nat, N - 1 - i = k := ⟨_, rfl⟩
      have hk0 : (0 : Int) ≤ (k : Int) := by omega
      have hk1 : (k : Int) < (N : Int) := by omega
      obtain ⟨P, hP⟩ : ∃ P : Int, (N : Int) - 1 = P := ⟨_, rfl⟩
      have wP : IntKind.i64.wrap ((N : Int) - 1) = P := by rw [hP]; exact IntWalk.i64_in _ (by omega)
      have wk : IntKind.i64.wrap (P - (i : Int)) = (k : Int) := by rw [show P - (i : Int) = (k : Int) by omega]; exact IntWalk.i64_in _ (by omega)
      obtain ⟨g0, o, rfl, hb, hc⟩ := G.out.lies (by omega)
      have HC : Hid (∀ V, Kept w V → V.cell? ⟨g0, o + i, none⟩ = some (.int .i64 (f i 0)) ∧ V.cell? ⟨g0, o + k, none⟩ = some (.int .i64 (f k 0))) := Lib.hid (fun V hV => by
        have e0 := hV.cell (hc i hlt 0 (by decide))
        have e1 := hV.cell (hc k (by omega) 0 (by decide))
        rw [Nat.add_zero, Nat.mul_one] at e0 e1
        exact ⟨e0, e1⟩)
      clear hc hb
      have ui := HU.out i
      have uk := HU.out k
      have kg0 := Lib.hid (Kg.out i)
      have kq0 := Lib.hid (Kq.out i)
      have kg1 := Lib.hid (Kg.out k)
      have kq1 := Lib.hid (Kq.out k)
      have G1 := got_su Hg.out (i := i) (by omega) (o := B) (v := true)
      have G2 := sent_su Hq.out (i := i) (by omega) (a := su g (i + 1))
      have G3 := sent_su Hq'.out (i := i) (by omega) (a := C)
      have G4 := got_su Hg'.out (i := i) (by omega) (o := su q' (i + 1)) (v := true)
      rw [Eg.out i, hk] at G4
      rw [Eq.out i, hk] at G3
      have z0 := Hg.out i
      have z1 := Hq.out i
      have z2 := Hg.out k
      have z3 := Hq.out k
      have HT2 : Hid (su g (i + 1) = su g (i + 1) ∧ su q (i + 1) = su q (i + 1) ∧ su g' (i + 1) = su g' (i + 1) ∧ su q' (i + 1) = su q' (i + 1)) := Lib.hid ⟨rfl, rfl, rfl, rfl⟩
      obtain ⟨h0, h1, h2, h3⟩ := HT.out
      rw [← h0] at G1
      rw [← h1] at G2
      rw [← h3] at G3
      rw [← h2] at G4
      clear h0 h1 h2 h3 HT
      have HT2 : Hid (∀ a b c e, a = su g (i + 1) → b = su q (i + 1) → c = su g' (i + 1) → e = su q' (i + 1) → (a = su g (i + 1) ∧ b = su q (i + 1) ∧ c = su g' (i + 1) ∧ e = su q' (i + 1))) := Lib.hid (fun _ _ _ _ h1 h2 h3 h4 => ⟨h1, h2, h3, h4⟩)
      obtain ⟨A1, hA1⟩ : ∃ A1, su g (i + 1) = A1 := ⟨_, rfl⟩
      obtain ⟨B1, hB1⟩ : ∃ B1, su q (i + 1) = B1 := ⟨_, rfl⟩
      obtain ⟨C1, hC1⟩ : ∃ C1, su g' (i + 1) = C1 := ⟨_, rfl⟩
      obtain ⟨E1, hE1⟩ : ∃ E1, su q' (i + 1) = E1 := ⟨_, rfl⟩
      have HT3 : Hid (A1 = su g (i + 1) ∧ B1 = su q (i + 1) ∧ C1 = su g' (i + 1) ∧ E1 = su q' (i + 1)) := Lib.hid ⟨hA1.symm, hB1.symm, hC1.symm, hE1.symm⟩
      rw [hA1] at G1 G2
      rw [hB1] at G2
      rw [hE1] at G3 G4
      rw [hC1] at G4
      clear hA1 hB1 hC1 hE1 HT2
      have k1 : Hid (∀ U, Bx w [(aa, 48, laA ⟨A, B, true⟩), (bb, 48, laA ⟨C, E, true⟩)] U → Calls Try.prog 12 #[ptr aa, .int .i64 (g i)] U (To (.int .i64 0) w [(aa, 48, laA ⟨A1, B, true⟩), (bb, 48, laA ⟨C, E, true⟩)])) := Lib.hid (fun U h => by
        have := got_bx h 0 rfl (g i)
        rwa [gotE_is z0, G1] at this)
      have k2 : Hid (∀ U, Bx w [(aa, 48, laA ⟨A1, B, true⟩), (bb, 48, laA ⟨C, E, true⟩)] U → Calls Try.prog 14 #[ptr aa, .int .i64 (q i)] U (To (.int .i64 0) w [(aa, 48, laA ⟨A1, B1, true⟩), (bb, 48, laA ⟨C, E, true⟩)])) := Lib.hid (fun U h => by
        have := sent_bx h 0 rfl (q i)
        rwa [sentE_valid z1, G2] at this)
      have k3 : Hid (∀ U, Bx w [(aa, 48, laA ⟨A1, B1, true⟩), (bb, 48, laA ⟨C, E, true⟩)] U → Calls Try.prog 14 #[ptr bb, .int .i64 (q k)] U (To (.int .i64 0) w [(aa, 48, laA ⟨A1, B1, true⟩), (bb, 48, laA ⟨C, E1, true⟩)])) := Lib.hid (fun U h => by
        have := sent_bx h 1 rfl (q k)
        rwa [sentE_valid z3, G3] at this)
      have k4 : Hid (∀ U, Bx w [(aa, 48, laA ⟨A1, B1, true⟩), (bb, 48, laA ⟨C, E1, true⟩)] U → Calls Try.prog 12 #[ptr bb, .int .i64 (g k)] U (To (.int .i64 0) w [(aa, 48, laA ⟨A1, B1, true⟩), (bb, 48, laA ⟨C1, E1, true⟩)])) := Lib.hid (fun U h => by
        have := got_bx h 1 rfl (g k)
        rwa [gotE_is z2, G4] at this)
      clear G1 G2 G3 G4 z0 z1 z2 z3 hk hP
      generalize g i = gi at *
      generalize q i = qi at *
      generalize g k = gk at *
      generalize q k = qk at *
      generalize u i = xi at *
      generalize u k = xk at *
      generalize f i 0 = yi at *
      generalize f k 0 = yk at *
      obtain ⟨ei, ek⟩ := HC.out _ D.out.K
      go_wp2_with fail
      refine (kg0.out _).mono ?_
      rintro e w' ⟨rfl, rfl⟩
      go_wp2_with fail
      clear ei ek
      refine (k1.out _ D.out).mono ?_
      rintro e v3 ⟨rfl, hb⟩
      have D := Lib.hid hb
      clear hb
      obtain ⟨ei, ek⟩ := HC.out _ D.out.K
      go_wp2_with fail
      refine (kq0.out _).mono ?_
      rintro e w' ⟨rfl, rfl⟩
      go_wp2_with fail
      clear ei ek
      refine (k2.out _ D.out).mono ?_
      rintro e v4 ⟨rfl, hb⟩
      have D := Lib.hid hb
      clear hb
      obtain ⟨ei, ek⟩ := HC.out _ D.out.K
      go_wp2_with fail
      refine (kq1.out _).mono ?_
      rintro e w' ⟨rfl, rfl⟩
      go_wp2_with fail
      clear ei ek
      refine (k3.out _ D.out).mono ?_
      rintro e v5 ⟨rfl, hb⟩
      have D := Lib.hid hb
      clear hb
      obtain ⟨ei, ek⟩ := HC.out _ D.out.K
      go_wp2_with fail
      refine (kg1.out _).mono ?_
      rintro e w' ⟨rfl, rfl⟩
      go_wp2_with fail
      clear ei ek
      refine (k4.out _ D.out).mono ?_
      rintro e v6 ⟨rfl, hb⟩
      have D := Lib.hid hb
      clear hb
      go_wp2_with fail
      go_roundw
      case rel => exact ⟨i + 1, A1, B1, C1, E1, by omega, by go_num, HT3, D⟩
      case measure => simp [intOf]; omega
    · have hi1 : ¬ (i : Int) < (N : Int) := by omega
      obtain rfl : i = N := by omega
      obtain ⟨h0, h1, h2, h3⟩ := HT.out
      obtain rfl : A = C := by rw [h0, h2, Rg.out]
      obtain rfl : B = E := by rw [h1, h3, Rq.out]
      clear h0 h1 h2 h3 HT
      have k1 : Hid (∀ U, Bx w [(aa, 48, laA ⟨A, B, true⟩), (bb, 48, laA ⟨A, B, true⟩)] U → Calls Try.prog 22 #[ptr aa] U (To (.tuple #[.int .i64 A, .int .i64 B]) w [(aa, 48, laA ⟨A, B, true⟩), (bb, 48, laA ⟨A, B, true⟩)])) := Lib.hid (fun U h => totals_bx h 0 rfl)
      have k2 : Hid (∀ U, Bx w [(aa, 48, laA ⟨A, B, true⟩), (bb, 48, laA ⟨A, B, true⟩)] U → Calls Try.prog 22 #[ptr bb] U (To (.tuple #[.int .i64 A, .int .i64 B]) w [(aa, 48, laA ⟨A, B, true⟩), (bb, 48, laA ⟨A, B, true⟩)])) := Lib.hid (fun U h => totals_bx h 1 rfl)
      go_wp2_with fail
      refine (k1.out _ D.out).mono ?_
      rintro e v3 ⟨rfl, hb⟩
      have D := Lib.hid hb
      clear hb
      go_wp2_with fail
      refine (k2.out _ D.out).mono ?_
      rintro e v4 ⟨rfl, hb⟩
      have D := Lib.hid hb
      clear hb
      go_wp2_with fail
      refine (works_bx D.out).mono ?_
      rintro e v90 ⟨rfl, hb⟩
      have D := Lib.hid hb
      go_wp2_with fail
      go_ret
      exact ⟨rfl, D.out.K⟩
end Go.Proofs.Ytfacacieegfopaa.Law
