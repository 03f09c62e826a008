/-
  The contract of math/bits' Div64, whole: for every hi, lo and y with hi < y it returns the quotient and the rest of hi 2^64 + lo by y.
-/
import Derived.Test.YtfacacieegfopaaDivW
namespace Go.Proofs.Ytfacacieegfopaa.Sat
open Go.RowKit
set_option linter.unusedSimpArgs false
set_option linter.unusedVariables false

set_option maxRecDepth 100000 in
theorem wrap_u64_in (n : Int) (h : 0 ≤ n) (h' : n ≤ 18446744073709551615) : IntKind.u64.wrap n = n := by
  rw [IntKind.wrap_u64]; omega

set_option maxRecDepth 100000 in
/-- A difference that fits, reckoned in words. -/
theorem wrap_diff (u c p R : Int) (h : u * 4294967296 + c - p = R) (h0 : 0 ≤ R) (h1 : R ≤ 18446744073709551615) :
    IntKind.u64.wrap (IntKind.u64.wrap (IntKind.u64.wrap (u * 4294967296) + c) - IntKind.u64.wrap p) = R := by
  simp only [IntKind.wrap_u64]
  omega

set_option maxRecDepth 100000 in
theorem guess_start {Y yn1 yn0 u c D : Int} (W : Words Y yn1 yn0 u c D) (hb : yn1 < 4294967296) : Guess Y yn1 yn0 u c D (u / yn1) (u % yn1) := by
  obtain ⟨g1, g2, g3, g4, g5, g6⟩ := Div.digit_guess Y u c yn1 yn0 W.y W.b1 W.b0 W.b0' W.u0 W.uy W.c0 W.c0'
  exact ⟨g3, by rw [W.d]; exact g1, g6, g2, g4, by omega⟩

set_option maxRecDepth 100000 in
theorem rest_of (Y u c D : Int) (hY : 0 < Y) (hD : D = (u * 4294967296 + c) / Y) : 0 ≤ u * 4294967296 + c - D * Y ∧ u * 4294967296 + c - D * Y < Y := by
  have a := Int.mul_ediv_add_emod (u * 4294967296 + c) Y
  have b := Int.emod_nonneg (u * 4294967296 + c) (show Y ≠ 0 by omega)
  have d := Int.emod_lt_of_pos (u * 4294967296 + c) hY
  rw [← hD, Int.mul_comm] at a
  omega

set_option maxRecDepth 100000 in
theorem div_pos (hi lo y : Int) (w : World) (h1 : 0 ≤ lo) (h2 : lo ≤ 18446744073709551615) (h4 : y ≤ 18446744073709551615) (h5 : 1 ≤ hi) (h6 : hi < y) :
    Calls Try.prog 48 #[.int .u64 hi, .int .u64 lo, .int .u64 y] w fun e w' => e = .returned (.tuple #[.int .u64 ((hi * 18446744073709551616 + lo) / y), .int .u64 ((hi * 18446744073709551616 + lo) % y)]) ∧ w = w' := by
  have h3 : 1 ≤ y := by omega
  -- how far y is moved
  obtain ⟨n, rfl⟩ := Int.eq_ofNat_of_zero_le (show 0 ≤ y by omega)
  obtain ⟨k1, k2, k3⟩ := Div.bitLen_spec _ n rfl (by omega) (by omega)
  have kle := Div.bitLen_pow 64 n (by omega) (by omega)
  generalize hL : Lib.bitLen n = L at k1 k2 k3 kle
  have hp : 2 ^ (64 - L) * 2 ^ (L - 1) = 2 ^ 63 := by rw [← Nat.pow_add]; congr 1; omega
  have hp' : 2 ^ (64 - L) * 2 ^ L = 2 ^ 64 := by rw [← Nat.pow_add]; congr 1; omega
  have hP : 0 < 2 ^ (64 - L) := Nat.pow_pos (by omega)
  have ya : 2 ^ 63 ≤ n * 2 ^ (64 - L) := by
    rw [← hp, Nat.mul_comm n]; exact Nat.mul_le_mul_left _ k2
  have yb : n * 2 ^ (64 - L) < 2 ^ 64 := by
    rw [← hp', Nat.mul_comm n]; exact Nat.mul_lt_mul_of_pos_left k3 hP
  have ya' : (2 : Int) ^ 63 ≤ (n : Int) * 2 ^ (64 - L) := by exact_mod_cast ya
  have yb' : (n : Int) * 2 ^ (64 - L) < 2 ^ 64 := by exact_mod_cast yb
  have sh := Div.shifted hi lo n h1 h2 h3 h4 h5 h6 (64 - L) (by omega) ya' yb'
  obtain ⟨s1, s2, s3, s4, s5⟩ := sh
  have hPi : (0 : Int) < 2 ^ (64 - L) := Int.pow_pos (by omega)
  have hs : ((64 - L : Nat) : Int).toNat = 64 - L := by omega
  have hs2 : (64 - ((64 - L : Nat) : Int)).toNat = 64 - (64 - L) := by omega
  generalize hk : 64 - L = k at *
  generalize hYd : (n : Int) * 2 ^ k = Y at *
  generalize hud : hi * 2 ^ k + lo / 2 ^ (64 - k) = u at *
  generalize hvd : (lo * 2 ^ k) % 18446744073709551616 = v at *
  have v0 : 0 ≤ v := by rw [← hvd]; exact Int.emod_nonneg _ (by omega)
  have v1 : v < 18446744073709551616 := by rw [← hvd]; exact Int.emod_lt_of_pos _ (by omega)
  have hY0 : 0 < Y := by omega
  have W1 : Words Y (Y / 4294967296) (Y % 4294967296) u (v / 4294967296) ((u * 4294967296 + v / 4294967296) / Y) := ⟨by omega, by omega, by omega, by omega, s1, s2, by omega, by omega, rfl⟩
  have D1 := Div.digit_bd Y u (v / 4294967296) s1 s2 (by omega) (by omega)
  generalize hQ1 : (u * 4294967296 + v / 4294967296) / Y = Q1 at *
  have R1 := rest_of Y u (v / 4294967296) Q1 hY0 hQ1.symm
  generalize hun21 : u * 4294967296 + v / 4294967296 - Q1 * Y = un21 at *
  have W0 : Words Y (Y / 4294967296) (Y % 4294967296) un21 (v % 4294967296) ((un21 * 4294967296 + v % 4294967296) / Y) := ⟨by omega, by omega, by omega, by omega, R1.1, R1.2, by omega, by omega, rfl⟩
  have D0 := Div.digit_bd Y un21 (v % 4294967296) R1.1 R1.2 (by omega) (by omega)
  generalize hQ0 : (un21 * 4294967296 + v % 4294967296) / Y = Q0 at *
  have R0 := rest_of Y un21 (v % 4294967296) Q0 hY0 hQ0.symm
  generalize hR : un21 * 4294967296 + v % 4294967296 - Q0 * Y = R at *
  have G1 := guess_start W1 (by omega)
  have G0 := guess_start W0 (by omega)
  have g1 := G1.qr
  have g0 := G0.qr
  have a1 := G1.q0
  have a2 := G1.qB
  have a3 := G1.r0
  have a5 := G0.q0
  have a6 := G0.qB
  have a7 := G0.r0
  have l1 := Int.emod_lt_of_pos u (show 0 < Y / 4294967296 by omega)
  have l0 := Int.emod_lt_of_pos un21 (show 0 < Y / 4294967296 by omega)
  have p1 : 0 ≤ u / (Y / 4294967296) * (Y / 4294967296) := Int.mul_nonneg a1 (by omega)
  have p0 : 0 ≤ un21 / (Y / 4294967296) * (Y / 4294967296) := Int.mul_nonneg a5 (by omega)
  have fin := Div.two_digits (hi * 18446744073709551616 + lo) n (2 ^ k) Y u (v % 4294967296) Q1 Q0 (v / 4294967296) hPi (by omega) hYd.symm (by rw [← s3]; omega) hQ1.symm (by rw [hun21]; exact hQ0.symm)
  rw [hun21, hR] at fin
  obtain ⟨fq, fr⟩ := fin
  have hor := Div.or_add hi (lo / 2 ^ (64 - k)) k (by omega) s4 s5 (by rw [hud]; omega)
  have hhi : 0 ≤ hi * 2 ^ k := Int.mul_nonneg (by omega) (by omega)
  refine (div_walk hi lo n (k : Int) Y (Y / 4294967296) (Y % 4294967296) u v (v / 4294967296) (v % 4294967296) (u / (Y / 4294967296)) (u % (Y / 4294967296)) Q1 un21 (un21 / (Y / 4294967296)) (un21 % (Y / 4294967296)) Q0 R w
    h1 h2 h3 h4 h5 h6 (by omega) (by omega) (Lib.hid (by rw [show ((n : Int)).toNat = n by omega, hL]; omega))
    (by rw [hs, hYd, wrap_u64_in _ (by omega) (by omega)]) rfl (Div.and_low Y (by omega) (by omega))
    (by rw [hs, hs2, wrap_u64_in (hi * 2 ^ k) (by omega) (by omega), hor, hud])
    (by rw [hs, IntKind.wrap_u64]; exact hvd) rfl (Div.and_low v v0 (by omega))
    rfl (by rw [wrap_u64_in _ (by omega) (by omega)]; omega)
    (by omega) (by omega) (by omega) (by omega) (by omega) (by omega) (by omega) (by omega) (by omega) (by omega) a1 a2 a3 l1 (by omega) (by omega) (by omega)
    (wrap_diff u (v / 4294967296) (Q1 * Y) un21 hun21 R1.1 (by omega)) rfl (by rw [wrap_u64_in _ (by omega) (by omega)]; omega)
    (wrap_diff un21 (v % 4294967296) (Q0 * Y) R hR R0.1 (by omega))
    D1.1 D1.2 D0.1 D0.2 R1.1 (by omega) a5 a6 a7 l0 (by omega) R0.1 (by omega) W1 G1 W0 G0).mono fun e w' h => ⟨?_, h.2⟩
  rw [h.1, fq, hs, fr]

set_option maxRecDepth 100000 in
theorem div_any (hi lo y : Int) (w : World) (h0 : 0 ≤ hi) (h1 : 0 ≤ lo) (h2 : lo ≤ 18446744073709551615) (h4 : y ≤ 18446744073709551615) (h6 : hi < y) :
    Calls Try.prog 48 #[.int .u64 hi, .int .u64 lo, .int .u64 y] w fun e w' => e = .returned (.tuple #[.int .u64 ((hi * 18446744073709551616 + lo) / y), .int .u64 ((hi * 18446744073709551616 + lo) % y)]) ∧ Kept w w' := by
  by_cases h : hi = 0
  · subst h
    refine (div_zero lo y w h1 h2 (by omega) h4).mono fun e w' h => ⟨?_, h.2⟩
    rw [h.1, Int.zero_mul, Int.zero_add]
  · exact (div_pos hi lo y w h1 h2 h4 (by omega) h6).mono fun e w' h => ⟨h.1, by rw [← h.2]; exact Kept.refl _⟩

end Go.Proofs.Ytfacacieegfopaa.Sat
