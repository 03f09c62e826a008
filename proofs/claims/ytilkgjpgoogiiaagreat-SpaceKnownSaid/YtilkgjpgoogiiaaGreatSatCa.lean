/-
  Contracts of sat's MulRest, MulDiv, Mul and MulUp: what each returns, for every input; the world gets at most new blocks.
-/
import Derived.Test.YtilkgjpgoogiiaaGreatDivXa
set_option maxRecDepth 100000
set_option maxHeartbeats 16000000
set_option linter.unusedVariables false
set_option linter.unusedSimpArgs false
namespace Go.Proofs.YtilkgjpgoogiiaaGreat.Sat
open Go.RowKit
theorem mul64_any (x y : Int) (w : World) (h0 : 0 ≤ x) (h1 : x ≤ 9007199254740991) (h2 : 0 ≤ y) (h3 : y ≤ 9007199254740991) :
    Calls Tryz.prog 197 #[.int .u64 x, .int .u64 y] w fun e w' => e = .returned (.tuple #[.int .u64 (x * y / 18446744073709551616), .int .u64 (x * y % 18446744073709551616)]) ∧ w = w' := by
  obtain ⟨m, rfl⟩ := Int.eq_ofNat_of_zero_le h0
  obtain ⟨n, rfl⟩ := Int.eq_ofNat_of_zero_le h2
  refine (Bits.bits_Mul64 m n (by omega) (by omega) w).mono fun e w' h => ⟨?_, h.2.symm⟩
  rw [h.1, Int.natCast_ediv, Int.natCast_emod, Int.natCast_mul]; rfl
theorem div_prod (p c : Int) (w : World) (p0 : 0 ≤ p) (c1 : c ≤ 9007199254740991) (h : p / 18446744073709551616 < c) :
    Calls Tryz.prog 198 #[.int .u64 (p / 18446744073709551616), .int .u64 (p % 18446744073709551616), .int .u64 c] w fun e w' => e = .returned (.tuple #[.int .u64 (p / c), .int .u64 (p % c)]) ∧ Kept w w' := by
  refine (div_any (p / 18446744073709551616) (p % 18446744073709551616) c w (by omega) (by omega) (by omega) (by omega) h).mono fun e w' h => ⟨?_, h.2⟩
  rw [h.1, show p / 18446744073709551616 * 18446744073709551616 + p % 18446744073709551616 = p by omega]
theorem mulRest_any (a b c : Int) (w : World) :
    Calls Tryz.prog 181 #[.int .i64 a, .int .i64 b, .int .i64 c] w fun e w' => e = .returned (.tuple #[.int .i64 (mulq a b c), .int .i64 (mulr a b c)]) ∧ Kept w w' := by
  obtain ⟨a0, a1⟩ := num_bd a
  obtain ⟨b0, b1⟩ := num_bd b
  obtain ⟨c0, c1⟩ := num_bd c
  obtain ⟨p0, p1⟩ := prod_bd a b
  have hq : mulq a b c = if num c = 0 ∨ 9007199254740991 < num a * num b / num c then 9007199254740991 else num a * num b / num c := rfl
  have hr : mulr a b c = if num c = 0 ∨ 9007199254740991 < num a * num b / num c then 0 else num a * num b % num c := rfl
  have dh0 : 0 ≤ num a * num b / 18446744073709551616 := by omega
  have dh1 : num a * num b / 18446744073709551616 ≤ 4398046511104 := by omega
  have dl0 : 0 ≤ num a * num b % 18446744073709551616 := by omega
  have dl1 : num a * num b % 18446744073709551616 ≤ 18446744073709551615 := by omega
  by_cases hlt : num a * num b / 18446744073709551616 < num c
  · have q0 : 0 ≤ num a * num b / num c := Int.ediv_nonneg p0 c0
    have q1 : num a * num b / num c < 18446744073709551616 := Int.ediv_lt_of_lt_mul (by omega) (by omega)
    have r0 : 0 ≤ num a * num b % num c := Int.emod_nonneg _ (by omega)
    have r1 : num a * num b % num c < num c := Int.emod_lt_of_pos _ (by omega)
    generalize hX : num a * num b / num c = X at *
    generalize hZ : num a * num b % num c = Z at *
    have hX' := Lib.hid hX
    have hZ' := Lib.hid hZ
    generalize hA : num a = A at *
    generalize hB : num b = B at *
    generalize hC : num c = C at *
    have HD : ∀ w, Calls Tryz.prog 198 #[.int .u64 (A * B / 18446744073709551616), .int .u64 (A * B % 18446744073709551616), .int .u64 C] w fun e w' => e = .returned (.tuple #[.int .u64 X, .int .u64 Z]) ∧ Kept w w' := by
      intro w; rw [← hX, ← hZ]; exact div_prod (A * B) C w p0 c1 hlt
    have HDh := Lib.hid HD
    clear HD hX hZ
    by_cases hM : 9007199254740991 < X
    · rw [hq, hr, if_pos (.inr hM), if_pos (.inr hM)]
      have hn := num_hi X hM
      clear hq hr
      go_enter Tryz.func181, Tryz.ntmps181
      go_wp2_with (first | (go_at_call 121; refine (clamp_int _ _).mono ?_; rintro e w' ⟨rfl, rfl⟩) | (go_at_call 199; refine (clamp_u64 _ _).mono ?_; rintro e w' ⟨rfl, rfl⟩) | (go_at_call 197; refine (mul64_any _ _ _ (by omega) (by omega) (by omega) (by omega)).mono ?_; rintro e w' ⟨rfl, rfl⟩) | (go_at_call 198; refine (HDh.out _).mono ?_; rintro e w' ⟨rfl, hk⟩))
      go_ret2
      exact ⟨rfl, hk⟩
    · have hcz : ¬ (C = 0 ∨ 9007199254740991 < X) := by omega
      rw [hq, hr, if_neg hcz, if_neg hcz]
      have hn := num_id X q0 (by omega)
      clear hq hr
      go_enter Tryz.func181, Tryz.ntmps181
      go_wp2_with (first | (go_at_call 121; refine (clamp_int _ _).mono ?_; rintro e w' ⟨rfl, rfl⟩) | (go_at_call 199; refine (clamp_u64 _ _).mono ?_; rintro e w' ⟨rfl, rfl⟩) | (go_at_call 197; refine (mul64_any _ _ _ (by omega) (by omega) (by omega) (by omega)).mono ?_; rintro e w' ⟨rfl, rfl⟩) | (go_at_call 198; refine (HDh.out _).mono ?_; rintro e w' ⟨rfl, hk⟩))
      go_ret2
      exact ⟨rfl, hk⟩
  · have hQ : mulq a b c = 9007199254740991 ∧ mulr a b c = 0 := by
      have : num c = 0 ∨ 9007199254740991 < num a * num b / num c := by
        by_cases hz : num c = 0
        · exact .inl hz
        · right
          have : 18446744073709551616 ≤ num a * num b / num c := Int.le_ediv_of_mul_le (by omega) (by omega)
          omega
      rw [hq, hr, if_pos this, if_pos this]; exact ⟨rfl, rfl⟩
    obtain ⟨hQ1, hQ2⟩ := hQ
    rw [hQ1, hQ2]
    clear hq hr hQ1 hQ2
    generalize hA : num a = A at *
    generalize hB : num b = B at *
    generalize hC : num c = C at *
    go_enter Tryz.func181, Tryz.ntmps181
    go_wp2_with (first | (go_at_call 121; refine (clamp_int _ _).mono ?_; rintro e w' ⟨rfl, rfl⟩) | (go_at_call 197; refine (mul64_any _ _ _ (by omega) (by omega) (by omega) (by omega)).mono ?_; rintro e w' ⟨rfl, rfl⟩))
    go_ret2
    exact ⟨rfl, Kept.refl _⟩
theorem mulDiv_any (a b c : Int) (w : World) :
    Calls Tryz.prog 146 #[.int .i64 a, .int .i64 b, .int .i64 c] w fun e w' => e = .returned (.int .i64 (mulq a b c)) ∧ Kept w w' := by
  go_enter Tryz.func146, Tryz.ntmps146
  go_wp2_with (go_at_call 181; refine (mulRest_any _ _ _ _).mono ?_; rintro e w' ⟨rfl, hk⟩)
  go_ret
  exact ⟨rfl, hk⟩
theorem mul_any (a b : Int) (w : World) :
    Calls Tryz.prog 164 #[.int .i64 a, .int .i64 b] w fun e w' => e = .returned (.int .i64 (mul a b)) ∧ Kept w w' := by
  go_enter Tryz.func164, Tryz.ntmps164
  go_wp2_with (go_at_call 146; refine (mulDiv_any _ _ _ _).mono ?_; rintro e w' ⟨rfl, hk⟩)
  go_ret
  exact ⟨ret_int (mulq_one a b), hk⟩
end Go.Proofs.YtilkgjpgoogiiaaGreat.Sat
