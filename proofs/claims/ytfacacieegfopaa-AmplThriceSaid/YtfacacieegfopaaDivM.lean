/-
  Plain mathematics of a division of two words by one (two digits of 32 bits, each guessed from the leading digits and put right), and of the shifts that come before.
-/
import Derived.Lib.BitFns
import Derived.Laws.Bits64b
namespace Go.Proofs.Ytfacacieegfopaa.Div
set_option linter.unusedVariables false

set_option maxRecDepth 100000 in
/-- The true digit lies below 2^32. -/
theorem digit_bd (Y u c : Int) (hu : 0 ≤ u) (huy : u < Y) (hc : 0 ≤ c) (hc' : c < 4294967296) :
    0 ≤ (u * 4294967296 + c) / Y ∧ (u * 4294967296 + c) / Y < 4294967296 := by
  constructor
  · exact Int.ediv_nonneg (by omega) (by omega)
  · exact Int.ediv_lt_of_lt_mul (by omega) (by omega)

set_option maxRecDepth 100000 in
theorem mulY (q yn1 yn0 Y : Int) (hY : Y = yn1 * 4294967296 + yn0) : q * Y = q * yn1 * 4294967296 + q * yn0 := by
  rw [hY, Int.mul_add, Int.mul_assoc]

set_option maxRecDepth 100000 in
/-- What is too great is greater than the digit. -/
theorem digit_step (Y u c yn1 yn0 q r : Int) (hY : Y = yn1 * 4294967296 + yn0) (hY0 : 0 < Y) (hu : 0 ≤ u) (huy : u < Y) (hc : 0 ≤ c) (hc' : c < 4294967296)
    (hqr : q * yn1 + r = u) (h : 4294967296 ≤ q ∨ 4294967296 * r + c < q * yn0) : (u * 4294967296 + c) / Y ≤ q - 1 := by
  have hb := digit_bd Y u c hu huy hc hc'
  rcases h with h | h
  · omega
  · have e := mulY q yn1 yn0 Y hY
    have : (u * 4294967296 + c) / Y < q := Int.ediv_lt_of_lt_mul hY0 (by rw [e]; omega)
    omega

set_option maxRecDepth 100000 in
/-- What is not too great is the digit. -/
theorem digit_is (Y u c yn1 yn0 q r : Int) (hY : Y = yn1 * 4294967296 + yn0) (hY0 : 0 < Y)
    (hqr : q * yn1 + r = u) (hq : (u * 4294967296 + c) / Y ≤ q) (h : q * yn0 ≤ 4294967296 * r + c) : q = (u * 4294967296 + c) / Y := by
  have e := mulY q yn1 yn0 Y hY
  have : q ≤ (u * 4294967296 + c) / Y := Int.le_ediv_of_mul_le hY0 (by rw [e]; omega)
  omega

set_option maxRecDepth 100000 in
/-- Nor is it once what is left has become 2^32 or more. -/
theorem digit_out (Y u c yn1 yn0 q r : Int) (hY : Y = yn1 * 4294967296 + yn0) (hY0 : 0 < Y) (h0 : 0 ≤ yn0) (h0' : yn0 < 4294967296) (hc : 0 ≤ c)
    (hqr : q * yn1 + r = u) (hq : (u * 4294967296 + c) / Y ≤ q) (hqB : q ≤ 4294967296) (hr : 4294967296 ≤ r) : q = (u * 4294967296 + c) / Y := by
  refine digit_is Y u c yn1 yn0 q r hY hY0 hqr hq ?_
  have : q * yn0 ≤ 4294967296 * 4294967295 := Int.mul_le_mul hqB (by omega) h0 (by omega)
  omega

set_option maxRecDepth 100000 in
/-- The first guess. -/
theorem digit_guess (Y u c yn1 yn0 : Int) (hY : Y = yn1 * 4294967296 + yn0) (h1 : 2147483648 ≤ yn1) (h0 : 0 ≤ yn0) (h0' : yn0 < 4294967296) (hu : 0 ≤ u) (huy : u < Y) (hc : 0 ≤ c) (hc' : c < 4294967296) :
    (u * 4294967296 + c) / Y ≤ u / yn1 ∧ u / yn1 ≤ 4294967297 ∧ (u / yn1) * yn1 + u % yn1 = u ∧ 0 ≤ u % yn1 ∧ u % yn1 < yn1 ∧ 0 ≤ u / yn1 := by
  have hm := Int.emod_nonneg u (show yn1 ≠ 0 by omega)
  have hl := Int.emod_lt_of_pos u (show 0 < yn1 by omega)
  have he : (u / yn1) * yn1 + u % yn1 = u := by rw [Int.mul_comm]; exact Int.mul_ediv_add_emod u yn1
  have hn : 0 ≤ u / yn1 := Int.ediv_nonneg hu (by omega)
  refine ⟨?_, ?_, he, hm, hl, hn⟩
  · have e := mulY (u / yn1 + 1) yn1 yn0 Y hY
    have e2 : (u / yn1 + 1) * yn1 = (u / yn1) * yn1 + yn1 := by rw [Int.add_mul, Int.one_mul]
    have h3 : 0 ≤ (u / yn1 + 1) * yn0 := Int.mul_nonneg (by omega) h0
    have : (u * 4294967296 + c) / Y < u / yn1 + 1 := Int.ediv_lt_of_lt_mul (by omega) (by rw [e]; omega)
    omega
  · have : u / yn1 < 4294967298 := Int.ediv_lt_of_lt_mul (by omega) (by omega)
    omega

set_option maxRecDepth 100000 in
/-- Both digits are the quotient; what is left is the rest, moved. -/
theorem two_digits (U y P Y u1 c0 : Int) (a b c : Int) (hP : 0 < P) (hy : 0 < y) (hY : Y = y * P) (hU : U * P = (u1 * 4294967296 + c) * 4294967296 + c0)
    (ha : a = (u1 * 4294967296 + c) / Y) (hb : b = ((u1 * 4294967296 + c - a * Y) * 4294967296 + c0) / Y) :
    a * 4294967296 + b = U / y ∧ ((u1 * 4294967296 + c - a * Y) * 4294967296 + c0 - b * Y) / P = U % y := by
  have hY0 : 0 < Y := by rw [hY]; exact Int.mul_pos hy hP
  have hd := Int.mul_ediv_add_emod ((u1 * 4294967296 + c - a * Y) * 4294967296 + c0) Y
  have hm := Int.emod_nonneg ((u1 * 4294967296 + c - a * Y) * 4294967296 + c0) (show Y ≠ 0 by omega)
  have hl := Int.emod_lt_of_pos ((u1 * 4294967296 + c - a * Y) * 4294967296 + c0) hY0
  rw [← hb, Int.mul_comm] at hd
  have e : U * P = (a * 4294967296 + b) * Y + (((u1 * 4294967296 + c - a * Y) * 4294967296 + c0) - b * Y) := by
    have e3 : (a * 4294967296 + b) * Y = a * Y * 4294967296 + b * Y := by rw [Int.add_mul, Int.mul_right_comm]
    rw [hU, e3]; omega
  have hR0 : 0 ≤ ((u1 * 4294967296 + c - a * Y) * 4294967296 + c0) - b * Y := by omega
  have hR1 : ((u1 * 4294967296 + c - a * Y) * 4294967296 + c0) - b * Y < Y := by omega
  generalize ((u1 * 4294967296 + c - a * Y) * 4294967296 + c0) - b * Y = R at e hR0 hR1 ⊢
  generalize a * 4294967296 + b = Q at e ⊢
  have q1 : U * P / Y = Q := by
    rw [e, Int.mul_comm Q Y, Int.mul_add_ediv_left _ _ (by omega), Int.ediv_eq_zero_of_lt hR0 hR1]; omega
  have q2 : U * P / Y = U / y := by rw [hY]; exact Int.mul_ediv_mul_of_pos_left U y hP
  have hQ : Q = U / y := by rw [← q1, q2]
  refine ⟨hQ, ?_⟩
  have r1 : R = (U % y) * P := by
    have h1 := Int.mul_ediv_add_emod U y
    have h2 : U * P = y * Q * P + U % y * P := by rw [← Int.add_mul, hQ, h1]
    have h3 : y * Q * P = Q * Y := by rw [hY, Int.mul_right_comm, Int.mul_comm]
    omega
  rw [r1]; exact Int.mul_ediv_cancel _ (by omega)

set_option maxRecDepth 100000 in
/-- The shifts: y is moved till its highest bit is set; both words are moved as far. -/
theorem shifted (hi lo y : Int) (h1 : 0 ≤ lo) (h2 : lo ≤ 18446744073709551615) (h3 : 1 ≤ y) (h4 : y ≤ 18446744073709551615) (h5 : 1 ≤ hi) (h6 : hi < y) (k : Nat) (hk : k ≤ 63) (ha : 2 ^ 63 ≤ y * 2 ^ k) (hb : y * 2 ^ k < 2 ^ 64) :
    0 ≤ hi * 2 ^ k + lo / 2 ^ (64 - k) ∧ hi * 2 ^ k + lo / 2 ^ (64 - k) < y * 2 ^ k ∧ (hi * 2 ^ k + lo / 2 ^ (64 - k)) * 18446744073709551616 + (lo * 2 ^ k) % 18446744073709551616 = (hi * 18446744073709551616 + lo) * 2 ^ k ∧ 0 ≤ lo / 2 ^ (64 - k) ∧ lo / 2 ^ (64 - k) < 2 ^ k := by
  have hp : (0 : Int) < 2 ^ k := Int.pow_pos (by omega)
  have hq : (0 : Int) < 2 ^ (64 - k) := Int.pow_pos (by omega)
  have hpq : (2 : Int) ^ k * 2 ^ (64 - k) = 18446744073709551616 := by
    rw [← Int.pow_add, show k + (64 - k) = 64 by omega]; rfl
  have l0 : 0 ≤ lo / 2 ^ (64 - k) := Int.ediv_nonneg h1 (by omega)
  have l1 : lo / 2 ^ (64 - k) < 2 ^ k := Int.ediv_lt_of_lt_mul hq (by rw [hpq]; omega)
  have hh : 0 ≤ hi * 2 ^ k := Int.mul_nonneg (by omega) (by omega)
  have hlt : hi * 2 ^ k + 2 ^ k ≤ y * 2 ^ k := by
    have := Int.mul_le_mul_of_nonneg_right (show hi + 1 ≤ y by omega) (Int.le_of_lt hp)
    rw [Int.add_mul, Int.one_mul] at this; exact this
  have hdm : lo * 2 ^ k / 18446744073709551616 = lo / 2 ^ (64 - k) := by
    rw [← hpq, Int.mul_comm lo]; exact Int.mul_ediv_mul_of_pos _ _ hp
  have he := Int.mul_ediv_add_emod (lo * 2 ^ k) 18446744073709551616
  rw [hdm] at he
  refine ⟨by omega, by omega, ?_, l0, l1⟩
  rw [Int.add_mul, Int.add_mul, Int.mul_right_comm]
  omega

set_option maxRecDepth 100000 in
theorem and_low (Y : Int) (h : 0 ≤ Y) (h' : Y ≤ 18446744073709551615) : bits .and .u64 Y 4294967295 = Y % 4294967296 := by
  obtain ⟨n, rfl⟩ := Int.eq_ofNat_of_zero_le h
  have := bits_and_u64_nat n 4294967295 (by omega) (by omega)
  rw [show ((4294967295 : Nat) : Int) = 4294967295 from rfl] at this
  rw [this, show (4294967295 : Nat) = 2 ^ 32 - 1 from rfl, Nat.and_two_pow_sub_one_eq_mod]
  omega

set_option maxRecDepth 100000 in
/-- Where the two share no bit. -/
theorem or_add (a b : Int) (k : Nat) (ha : 0 ≤ a) (hb : 0 ≤ b) (hk : b < 2 ^ k) (h : a * 2 ^ k + b ≤ 18446744073709551615) : bits .or .u64 (a * 2 ^ k) b = a * 2 ^ k + b := by
  obtain ⟨m, rfl⟩ := Int.eq_ofNat_of_zero_le ha
  obtain ⟨n, rfl⟩ := Int.eq_ofNat_of_zero_le hb
  have hk' : n < 2 ^ k := by exact_mod_cast hk
  have e : ((m : Int) * 2 ^ k) = ((m * 2 ^ k : Nat) : Int) := by push_cast; rfl
  rw [e] at h ⊢
  rw [bits_or_u64_nat _ _ (by omega) (by omega)]
  have := Nat.shiftLeft_add_eq_or_of_lt hk' m
  rw [Nat.shiftLeft_eq] at this
  rw [← this]; push_cast; rfl

set_option maxRecDepth 100000 in
theorem bitLen_pow : ∀ (k x : Nat), x < 2 ^ k → k ≤ 64 → Lib.bitLen x ≤ k := by
  intro k
  induction k with
  | zero => intro x hx _; obtain rfl : x = 0 := by omega
            decide
  | succ k ih =>
    intro x hx hk
    by_cases h0 : x = 0
    · subst h0; have : Lib.bitLen 0 = 0 := by decide
      omega
    · have h64 : x < 2 ^ 64 := Nat.lt_of_lt_of_le hx (Nat.pow_le_pow_right (by omega) hk)
      rw [Lib.bitLen_half x h0 h64]
      have := ih (x / 2) (by rw [Nat.pow_succ] at hx; omega) (by omega)
      omega

set_option maxRecDepth 100000 in
theorem bitLen_spec : ∀ (k x : Nat), Lib.bitLen x = k → x < 2 ^ 64 → x ≠ 0 → 1 ≤ k ∧ 2 ^ (k - 1) ≤ x ∧ x < 2 ^ k := by
  intro k
  induction k with
  | zero => intro x h hx h0; rw [Lib.bitLen_half x h0 hx] at h; omega
  | succ k ih =>
    intro x h hx h0
    rw [Lib.bitLen_half x h0 hx] at h
    by_cases h1 : x / 2 = 0
    · have h2 : Lib.bitLen (x / 2) = 0 := by rw [h1]; decide
      obtain rfl : k = 0 := by omega
      simp; omega
    · have := ih (x / 2) (by omega) (by omega) h1
      obtain ⟨a, b, c⟩ := this
      refine ⟨by omega, ?_, by rw [Nat.pow_succ]; omega⟩
      have : 2 ^ (k + 1 - 1) = 2 ^ (k - 1) * 2 := by rw [← Nat.pow_succ]; congr 1; omega
      omega

end Go.Proofs.Ytfacacieegfopaa.Div
