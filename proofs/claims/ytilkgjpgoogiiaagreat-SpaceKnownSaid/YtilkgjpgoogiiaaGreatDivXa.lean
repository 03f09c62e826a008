/-
  Contracts of math/bits' Mul64, Len64 and LeadingZeros64 over this program, out of the library's own (Any.bits_..).
-/
import Derived.Shelf.Small.Bits
import Derived.Shelf.Strconv.Itoa0
import Derived.Shelf.Bits.Mul64
import Derived.Test.YtilkgjpgoogiiaaGreatProg
import Derived.Lib.BitFns
import Derived.Laws.Bits64b
import Derived.Test.YtilkgjpgoogiiaaGreatSatabJ49a
import Derived.Deep.QuietTactic
import Derived.BigQuiet
import Derived.RegionTactic
import Derived.Deep.CutBlock
import Derived.Deep.DeepCutAuto
set_option maxRecDepth 100000
set_option maxHeartbeats 16000000
set_option linter.unusedVariables false
set_option linter.unusedSimpArgs false
namespace Go.Proofs.YtilkgjpgoogiiaaGreat.Bits
open Go.Shelf
def lays134_ren : Go.Shelf.Ren := ⟨fun | 134 => 205 | 129 => 206 | n => n, fun | 53 => 200 | 3 => 3 | 4 => 4 | 46 => 198 | 5 => 5 | 9 => 9 | n => n, fun | n => n⟩
theorem lays134 : Go.Proofs.Lays.n134 Tryz.prog lays134_ren := {
  mixed := by kernel_rfl
  f129 := Tryz.func206.trans (congrArg some (by kernel_rfl))
  f134 := Tryz.func205.trans (congrArg some (by kernel_rfl))
  t3 := Tryz.underlying3
  a3 := Tryz.isAgg3
  z3 := Tryz.sizeOf3
  v3 := Tryz.zeroValue3
  t4 := Tryz.underlying4
  a4 := Tryz.isAgg4
  z4 := Tryz.sizeOf4
  v4 := Tryz.zeroValue4
  t5 := Tryz.underlying5
  a5 := Tryz.isAgg5
  z5 := Tryz.sizeOf5
  v5 := Tryz.zeroValue5
  t9 := Tryz.underlying9
  a9 := Tryz.isAgg9
  z9 := Tryz.sizeOf9
  v9 := Tryz.zeroValue9
  t46 := Tryz.underlying198
  a46 := Tryz.isAgg198
  z46 := Tryz.sizeOf198
  v46 := Tryz.zeroValue198
  t53 := Tryz.underlying200
  a53 := Tryz.isAgg200
  z53 := Tryz.sizeOf200
  v53 := Tryz.zeroValue200 }
theorem bits_LeadingZeros64 (x : Int) (w : World) (h0 : 0 ≤ x) (h1 : x ≤ 18446744073709551615) :
    Calls Tryz.prog 205 #[.int .u64 x] w fun e w' => e = .returned (.int .i64 (64 - (Lib.bitLen x.toNat : Int))) ∧ w' = w := Any.bits_LeadingZeros64 lays134 x w h0 h1
def lays264_ren : Go.Shelf.Ren := ⟨fun | 264 => 197 | n => n, fun | 53 => 200 | 46 => 198 | n => n, fun | n => n⟩
theorem lays264 : Go.Proofs.Lays.n264 Tryz.prog lays264_ren := {
  mixed := by kernel_rfl
  f264 := Tryz.func197.trans (congrArg some (by kernel_rfl))
  t46 := Tryz.underlying198
  a46 := Tryz.isAgg198
  z46 := Tryz.sizeOf198
  v46 := Tryz.zeroValue198
  t53 := Tryz.underlying200
  a53 := Tryz.isAgg200
  z53 := Tryz.sizeOf200
  v53 := Tryz.zeroValue200 }
open Go.RowKit Go.Lib in
theorem bits_Mul64 (x y : Nat) (hx : x < 18446744073709551616) (hy : y < 18446744073709551616) (w : World) :
    Calls Tryz.prog 197 #[.int .u64 x, .int .u64 y] w fun e w' => e = .returned (.tuple #[.int .u64 ((x * y / 18446744073709551616 : Nat) : Int), .int .u64 ((x * y % 18446744073709551616 : Nat) : Int)]) ∧ w' = w := Any.bits_Mul64 lays264 x y hx hy w
end Go.Proofs.YtilkgjpgoogiiaaGreat.Bits
/-
  Plain mathematics of a division of two words by one (two digits of 32 bits, each guessed from the leading digits and put right), and of the shifts that come before.
-/
namespace Go.Proofs.YtilkgjpgoogiiaaGreat.Div
theorem digit_bd (Y u c : Int) (hu : 0 ≤ u) (huy : u < Y) (hc : 0 ≤ c) (hc' : c < 4294967296) :
    0 ≤ (u * 4294967296 + c) / Y ∧ (u * 4294967296 + c) / Y < 4294967296 := by
  constructor
  · exact Int.ediv_nonneg (by omega) (by omega)
  · exact Int.ediv_lt_of_lt_mul (by omega) (by omega)
theorem mulY (q yn1 yn0 Y : Int) (hY : Y = yn1 * 4294967296 + yn0) : q * Y = q * yn1 * 4294967296 + q * yn0 := by
  rw [hY, Int.mul_add, Int.mul_assoc]
theorem digit_step (Y u c yn1 yn0 q r : Int) (hY : Y = yn1 * 4294967296 + yn0) (hY0 : 0 < Y) (hu : 0 ≤ u) (huy : u < Y) (hc : 0 ≤ c) (hc' : c < 4294967296)
    (hqr : q * yn1 + r = u) (h : 4294967296 ≤ q ∨ 4294967296 * r + c < q * yn0) : (u * 4294967296 + c) / Y ≤ q - 1 := by
  have hb := digit_bd Y u c hu huy hc hc'
  rcases h with h | h
  · omega
  · have e := mulY q yn1 yn0 Y hY
    have : (u * 4294967296 + c) / Y < q := Int.ediv_lt_of_lt_mul hY0 (by rw [e]; omega)
    omega
theorem digit_is (Y u c yn1 yn0 q r : Int) (hY : Y = yn1 * 4294967296 + yn0) (hY0 : 0 < Y)
    (hqr : q * yn1 + r = u) (hq : (u * 4294967296 + c) / Y ≤ q) (h : q * yn0 ≤ 4294967296 * r + c) : q = (u * 4294967296 + c) / Y := by
  have e := mulY q yn1 yn0 Y hY
  have : q ≤ (u * 4294967296 + c) / Y := Int.le_ediv_of_mul_le hY0 (by rw [e]; omega)
  omega
theorem digit_out (Y u c yn1 yn0 q r : Int) (hY : Y = yn1 * 4294967296 + yn0) (hY0 : 0 < Y) (h0 : 0 ≤ yn0) (h0' : yn0 < 4294967296) (hc : 0 ≤ c)
    (hqr : q * yn1 + r = u) (hq : (u * 4294967296 + c) / Y ≤ q) (hqB : q ≤ 4294967296) (hr : 4294967296 ≤ r) : q = (u * 4294967296 + c) / Y := by
  refine digit_is Y u c yn1 yn0 q r hY hY0 hqr hq ?_
  have : q * yn0 ≤ 4294967296 * 4294967295 := Int.mul_le_mul hqB (by omega) h0 (by omega)
  omega
theorem digit_guess (Y u c yn1 yn0 : Int) (hY : Y = yn1 * 4294967296 + yn0) (h1 : 2147483648 ≤ yn1) (h0 : 0 ≤ yn0) (h0' : yn0 < 4294967296) (hu : 0 ≤ u) (huy : u < Y) (hc : 0 ≤ c) (hc' : c < 4294967296) :
    (u * 4294967296 + c) / Y ≤ u / yn1 ∧ u / yn1 ≤ 4294967297 ∧ (u / yn1) * yn1 + u % yn1 = u ∧ 0 ≤ u % yn1 ∧ u % yn1 < yn1 ∧ 0 ≤ u / yn1 := by
  have hm := Int.emod_nonneg u (show yn1 ≠ 0 by omega)
  have hl := Int.emod_lt_of_pos u (show 0 < yn1 by omega)
  have he : (u / yn1) * yn1 + u % yn1 = u := by rw [Int.mul_comm]; exact Int.mul_ediv_add_emod u yn1
  have hn : 0 ≤ u / yn1 := Int.ediv_nonneg hu (by omega)
  refine ⟨?_, ?_, he, hm, hl, hn⟩
  · have e := mulY (u / yn1 + 1) yn1 yn0 Y hY
    have e2 : (u / yn1 + 1) * yn1 = (u / yn1) * yn1 + yn1 := by rw [Int.add_mul, Int.one_mul]
    have h3 : 0 ≤ (u / yn1 + 1) * yn0 := Int.mul_nonneg (by omega) h0
    have : (u * 4294967296 + c) / Y < u / yn1 + 1 := Int.ediv_lt_of_lt_mul (by omega) (by rw [e]; omega)
    omega
  · have : u / yn1 < 4294967298 := Int.ediv_lt_of_lt_mul (by omega) (by omega)
    omega
theorem two_digits (U y P Y u1 c0 : Int) (a b c : Int) (hP : 0 < P) (hy : 0 < y) (hY : Y = y * P) (hU : U * P = (u1 * 4294967296 + c) * 4294967296 + c0)
    (ha : a = (u1 * 4294967296 + c) / Y) (hb : b = ((u1 * 4294967296 + c - a * Y) * 4294967296 + c0) / Y) :
    a * 4294967296 + b = U / y ∧ ((u1 * 4294967296 + c - a * Y) * 4294967296 + c0 - b * Y) / P = U % y := by
  have hY0 : 0 < Y := by rw [hY]; exact Int.mul_pos hy hP
  have hd := Int.mul_ediv_add_emod ((u1 * 4294967296 + c - a * Y) * 4294967296 + c0) Y
  have hm := Int.emod_nonneg ((u1 * 4294967296 + c - a * Y) * 4294967296 + c0) (show Y ≠ 0 by omega)
  have hl := Int.emod_lt_of_pos ((u1 * 4294967296 + c - a * Y) * 4294967296 + c0) hY0
  rw [← hb, Int.mul_comm] at hd
  have e : U * P = (a * 4294967296 + b) * Y + (((u1 * 4294967296 + c - a * Y) * 4294967296 + c0) - b * Y) := by
    have e3 : (a * 4294967296 + b) * Y = a * Y * 4294967296 + b * Y := by rw [Int.add_mul, Int.mul_right_comm]
    rw [hU, e3]; omega
  have hR0 : 0 ≤ ((u1 * 4294967296 + c - a * Y) * 4294967296 + c0) - b * Y := by omega
  have hR1 : ((u1 * 4294967296 + c - a * Y) * 4294967296 + c0) - b * Y < Y := by omega
  generalize ((u1 * 4294967296 + c - a * Y) * 4294967296 + c0) - b * Y = R at e hR0 hR1 ⊢
  generalize a * 4294967296 + b = Q at e ⊢
  have q1 : U * P / Y = Q := by
    rw [e, Int.mul_comm Q Y, Int.mul_add_ediv_left _ _ (by omega), Int.ediv_eq_zero_of_lt hR0 hR1]; omega
  have q2 : U * P / Y = U / y := by rw [hY]; exact Int.mul_ediv_mul_of_pos_left U y hP
  have hQ : Q = U / y := by rw [← q1, q2]
  refine ⟨hQ, ?_⟩
  have r1 : R = (U % y) * P := by
    have h1 := Int.mul_ediv_add_emod U y
    have h2 : U * P = y * Q * P + U % y * P := by rw [← Int.add_mul, hQ, h1]
    have h3 : y * Q * P = Q * Y := by rw [hY, Int.mul_right_comm, Int.mul_comm]
    omega
  rw [r1]; exact Int.mul_ediv_cancel _ (by omega)
theorem shifted (hi lo y : Int) (h1 : 0 ≤ lo) (h2 : lo ≤ 18446744073709551615) (h3 : 1 ≤ y) (h4 : y ≤ 18446744073709551615) (h5 : 1 ≤ hi) (h6 : hi < y) (k : Nat) (hk : k ≤ 63) (ha : 2 ^ 63 ≤ y * 2 ^ k) (hb : y * 2 ^ k < 2 ^ 64) :
    0 ≤ hi * 2 ^ k + lo / 2 ^ (64 - k) ∧ hi * 2 ^ k + lo / 2 ^ (64 - k) < y * 2 ^ k ∧ (hi * 2 ^ k + lo / 2 ^ (64 - k)) * 18446744073709551616 + (lo * 2 ^ k) % 18446744073709551616 = (hi * 18446744073709551616 + lo) * 2 ^ k ∧ 0 ≤ lo / 2 ^ (64 - k) ∧ lo / 2 ^ (64 - k) < 2 ^ k := by
  have hp : (0 : Int) < 2 ^ k := Int.pow_pos (by omega)
  have hq : (0 : Int) < 2 ^ (64 - k) := Int.pow_pos (by omega)
  have hpq : (2 : Int) ^ k * 2 ^ (64 - k) = 18446744073709551616 := by
    rw [← Int.pow_add, show k + (64 - k) = 64 by omega]; rfl
  have l0 : 0 ≤ lo / 2 ^ (64 - k) := Int.ediv_nonneg h1 (by omega)
  have l1 : lo / 2 ^ (64 - k) < 2 ^ k := Int.ediv_lt_of_lt_mul hq (by rw [hpq]; omega)
  have hh : 0 ≤ hi * 2 ^ k := Int.mul_nonneg (by omega) (by omega)
  have hlt : hi * 2 ^ k + 2 ^ k ≤ y * 2 ^ k := by
    have := Int.mul_le_mul_of_nonneg_right (show hi + 1 ≤ y by omega) (Int.le_of_lt hp)
    rw [Int.add_mul, Int.one_mul] at this; exact this
  have hdm : lo * 2 ^ k / 18446744073709551616 = lo / 2 ^ (64 - k) := by
    rw [← hpq, Int.mul_comm lo]; exact Int.mul_ediv_mul_of_pos _ _ hp
  have he := Int.mul_ediv_add_emod (lo * 2 ^ k) 18446744073709551616
  rw [hdm] at he
  refine ⟨by omega, by omega, ?_, l0, l1⟩
  rw [Int.add_mul, Int.add_mul, Int.mul_right_comm]
  omega
theorem and_low (Y : Int) (h : 0 ≤ Y) (h' : Y ≤ 18446744073709551615) : bits .and .u64 Y 4294967295 = Y % 4294967296 := by
  obtain ⟨n, rfl⟩ := Int.eq_ofNat_of_zero_le h
  have := bits_and_u64_nat n 4294967295 (by omega) (by omega)
  rw [show ((4294967295 : Nat) : Int) = 4294967295 from rfl] at this
  rw [this, show (4294967295 : Nat) = 2 ^ 32 - 1 from rfl, Nat.and_two_pow_sub_one_eq_mod]
  omega
theorem or_add (a b : Int) (k : Nat) (ha : 0 ≤ a) (hb : 0 ≤ b) (hk : b < 2 ^ k) (h : a * 2 ^ k + b ≤ 18446744073709551615) : bits .or .u64 (a * 2 ^ k) b = a * 2 ^ k + b := by
  obtain ⟨m, rfl⟩ := Int.eq_ofNat_of_zero_le ha
  obtain ⟨n, rfl⟩ := Int.eq_ofNat_of_zero_le hb
  have hk' : n < 2 ^ k := by exact_mod_cast hk
  have e : ((m : Int) * 2 ^ k) = ((m * 2 ^ k : Nat) : Int) := by push_cast; rfl
  rw [e] at h ⊢
  rw [bits_or_u64_nat _ _ (by omega) (by omega)]
  have := Nat.shiftLeft_add_eq_or_of_lt hk' m
  rw [Nat.shiftLeft_eq] at this
  rw [← this]; push_cast; rfl
theorem bitLen_pow : ∀ (k x : Nat), x < 2 ^ k → k ≤ 64 → Lib.bitLen x ≤ k := by
  intro k
  induction k with
  | zero => intro x hx _; obtain rfl : x = 0 := by omega
            decide
  | succ k ih =>
    intro x hx hk
    by_cases h0 : x = 0
    · subst h0; have : Lib.bitLen 0 = 0 := by decide
      omega
    · have h64 : x < 2 ^ 64 := Nat.lt_of_lt_of_le hx (Nat.pow_le_pow_right (by omega) hk)
      rw [Lib.bitLen_half x h0 h64]
      have := ih (x / 2) (by rw [Nat.pow_succ] at hx; omega) (by omega)
      omega
theorem bitLen_spec : ∀ (k x : Nat), Lib.bitLen x = k → x < 2 ^ 64 → x ≠ 0 → 1 ≤ k ∧ 2 ^ (k - 1) ≤ x ∧ x < 2 ^ k := by
  intro k
  induction k with
  | zero => intro x h hx h0; rw [Lib.bitLen_half x h0 hx] at h; omega
  | succ k ih =>
    intro x h hx h0
    rw [Lib.bitLen_half x h0 hx] at h
    by_cases h1 : x / 2 = 0
    · have h2 : Lib.bitLen (x / 2) = 0 := by rw [h1]; decide
      obtain rfl : k = 0 := by omega
      simp; omega
    · have := ih (x / 2) (by omega) (by omega) h1
      obtain ⟨a, b, c⟩ := this
      refine ⟨by omega, ?_, by rw [Nat.pow_succ]; omega⟩
      have : 2 ^ (k + 1 - 1) = 2 ^ (k - 1) * 2 := by rw [← Nat.pow_succ]; congr 1; omega
      omega
end Go.Proofs.YtilkgjpgoogiiaaGreat.Div
/-
  The contract of math/bits' Div64.
-/
namespace Go.Proofs.YtilkgjpgoogiiaaGreat.Sat
open Go.RowKit
theorem div_zero (lo y : Int) (w : World) (h1 : 0 ≤ lo) (h2 : lo ≤ 18446744073709551615) (h3 : 1 ≤ y) (h4 : y ≤ 18446744073709551615) :
    Calls Tryz.prog 198 #[.int .u64 0, .int .u64 lo, .int .u64 y] w fun e w' => e = .returned (.tuple #[.int .u64 (lo / y), .int .u64 (lo % y)]) ∧ Kept w w' := by
  have hy : (y == 0) = false := by simp; omega
  go_enter Tryz.func198, Tryz.ntmps198
  go_wp2
  go_region
  all_goals
    go_wp2
    go_ret2
    exact ⟨rfl, (Kept.refl _).drew⟩
structure Guess (Y yn1 yn0 u c D q r : Int) : Prop where
  qr : q * yn1 + r = u
  ge : D ≤ q
  q0 : 0 ≤ q
  qB : q ≤ 4294967297
  r0 : 0 ≤ r
  rB : r < 4294967296
structure Words (Y yn1 yn0 u c D : Int) : Prop where
  y : Y = yn1 * 4294967296 + yn0
  b1 : 2147483648 ≤ yn1
  b0 : 0 ≤ yn0
  b0' : yn0 < 4294967296
  u0 : 0 ≤ u
  uy : u < Y
  c0 : 0 ≤ c
  c0' : c < 4294967296
  d : D = (u * 4294967296 + c) / Y
theorem Guess.again {Y yn1 yn0 u c D q r : Int} (W : Words Y yn1 yn0 u c D) (g : Guess Y yn1 yn0 u c D q r) (h : 4294967296 ≤ q ∨ 4294967296 * r + c < q * yn0) (hr : r + yn1 < 4294967296) : Guess Y yn1 yn0 u c D (q - 1) (r + yn1) := by
  have hs := Div.digit_step Y u c yn1 yn0 q r W.y (by have := W.y; have := W.b1; have := W.b0; omega) W.u0 W.uy W.c0 W.c0' g.qr h
  have hb := Div.digit_bd Y u c W.u0 W.uy W.c0 W.c0'
  have := W.d; have := W.b1; have := g.qB; have := g.r0
  refine ⟨?_, by omega, by omega, by omega, by omega, hr⟩
  have := g.qr
  rw [Int.sub_mul, Int.one_mul]; omega
theorem Guess.out {Y yn1 yn0 u c D q r : Int} (W : Words Y yn1 yn0 u c D) (g : Guess Y yn1 yn0 u c D q r) (h : 4294967296 ≤ q ∨ 4294967296 * r + c < q * yn0) (hr : 4294967296 ≤ r + yn1) : q - 1 = D := by
  have hY : 0 < Y := by have := W.y; have := W.b1; have := W.b0; omega
  have hs := Div.digit_step Y u c yn1 yn0 q r W.y hY W.u0 W.uy W.c0 W.c0' g.qr h
  have := g.qB
  rw [W.d]
  refine Div.digit_out Y u c yn1 yn0 (q - 1) (r + yn1) W.y hY W.b0 W.b0' W.c0 ?_ hs (by omega) hr
  have := g.qr
  rw [Int.sub_mul, Int.one_mul]; omega
theorem Guess.is {Y yn1 yn0 u c D q r : Int} (W : Words Y yn1 yn0 u c D) (g : Guess Y yn1 yn0 u c D q r) (h : q * yn0 ≤ 4294967296 * r + c) : q = D := by
  rw [W.d]
  exact Div.digit_is Y u c yn1 yn0 q r W.y (by have := W.y; have := W.b1; have := W.b0; omega) g.qr (by have := g.ge; have := W.d; omega) h
theorem prod_u64 (q y : Int) (h1 : 0 ≤ q) (h2 : q < 4294967296) (h3 : 0 ≤ y) (h4 : y < 4294967296) : IntKind.u64.wrap (q * y) = q * y ∧ 0 ≤ q * y ∧ q * y ≤ 18446744065119617025 := by
  have a := Int.mul_nonneg h1 h3
  have b : q * y ≤ 4294967295 * 4294967295 := Int.mul_le_mul (by omega) (by omega) h3 (by omega)
  refine ⟨?_, a, by omega⟩
  rw [IntKind.wrap_u64]; omega
theorem lz_any (x s : Int) (w : World) (h0 : 0 ≤ x) (h1 : x ≤ 18446744073709551615) (HS : Hid (64 - (Lib.bitLen x.toNat : Int) = s)) :
    Calls Tryz.prog 205 #[.int .u64 x] w fun e w' => e = .returned (.int .i64 s) ∧ w = w' :=
  (Bits.bits_LeadingZeros64 x w h0 h1).mono fun e w' h => ⟨by rw [← HS.out]; exact h.1, h.2.symm⟩
theorem div_walk (hi lo y s Y yn1 yn0 un32 un10 un1 un0 q1 r1 Q1 un21 q0 r0 Q0 R : Int) (w : World) (h1 : 0 ≤ lo) (h2 : lo ≤ 18446744073709551615) (h3 : 1 ≤ y) (h4 : y ≤ 18446744073709551615) (h5 : 1 ≤ hi) (h6 : hi < y) (hs0 : 0 ≤ s) (hs1 : s ≤ 63) (HS : Hid (64 - (Lib.bitLen y.toNat : Int) = s))
    (e1 : IntKind.u64.wrap (y * 2 ^ s.toNat) = Y) (e2 : Y / 4294967296 = yn1) (e3 : bits BinOp.and IntKind.u64 Y 4294967295 = yn0)
    (e4 : bits BinOp.or IntKind.u64 (IntKind.u64.wrap (hi * 2 ^ s.toNat)) (lo / 2 ^ (64 - s).toNat) = un32)
    (e5 : IntKind.u64.wrap (lo * 2 ^ s.toNat) = un10) (e6 : un10 / 4294967296 = un1) (e7 : bits BinOp.and IntKind.u64 un10 4294967295 = un0)
    (e8 : un32 / yn1 = q1) (e9 : IntKind.u64.wrap (q1 * yn1) = un32 - r1)
    (b1 : 2147483648 ≤ yn1) (b1' : yn1 < 4294967296) (b0 : 0 ≤ yn0) (b0' : yn0 < 4294967296) (b2 : 0 ≤ un32) (b2' : un32 ≤ 18446744073709551615)
    (b3 : 0 ≤ un1) (b3' : un1 < 4294967296) (b4 : 0 ≤ un0) (b4' : un0 < 4294967296) (b5 : 0 ≤ q1) (b5' : q1 ≤ 4294967297) (b6 : 0 ≤ r1) (b6' : r1 < yn1) (b7 : r1 ≤ un32) (b8 : 0 ≤ Y) (b8' : Y ≤ 18446744073709551615)
    (f1 : IntKind.u64.wrap (IntKind.u64.wrap (IntKind.u64.wrap (un32 * 4294967296) + un1) - IntKind.u64.wrap (Q1 * Y)) = un21) (f2 : un21 / yn1 = q0) (f3 : IntKind.u64.wrap (q0 * yn1) = un21 - r0)
    (f4 : IntKind.u64.wrap (IntKind.u64.wrap (IntKind.u64.wrap (un21 * 4294967296) + un0) - IntKind.u64.wrap (Q0 * Y)) = R)
    (d1 : 0 ≤ Q1) (d1' : Q1 < 4294967296) (d0 : 0 ≤ Q0) (d0' : Q0 < 4294967296) (d2 : 0 ≤ un21) (d2' : un21 ≤ 18446744073709551615) (d5 : 0 ≤ q0) (d5' : q0 ≤ 4294967297) (d6 : 0 ≤ r0) (d6' : r0 < yn1) (d7 : r0 ≤ un21) (d8 : 0 ≤ R) (d8' : R ≤ 18446744073709551615)
    (W1 : Words Y yn1 yn0 un32 un1 Q1) (G1 : Guess Y yn1 yn0 un32 un1 Q1 q1 r1) (W0 : Words Y yn1 yn0 un21 un0 Q0) (G0 : Guess Y yn1 yn0 un21 un0 Q0 q0 r0) :
    Calls Tryz.prog 198 #[.int .u64 hi, .int .u64 lo, .int .u64 y] w fun e w' => e = .returned (.tuple #[.int .u64 (Q1 * 4294967296 + Q0), .int .u64 (R / 2 ^ s.toNat)]) ∧ w = w' := by
  have hy : (y == 0) = false := by simp; omega
  have hyh : (hi == 0) = false := by simp; omega
  go_enter Tryz.func198, Tryz.ntmps198
  go_upto_block 0 with (go_at_call 205; refine (lz_any y s _ (by omega) (by omega) HS).mono ?_; rintro e w' ⟨rfl, rfl⟩)
  go_cut [15] (fun q wx => q = .int .u64 Q1 ∧ w = wx)
  case first =>
    go_wp2_with fail
    go_loop [15, 16] (fun q r => ∃ qi ri : Int, q = .int .u64 qi ∧ r = .int .u64 ri ∧ Guess Y yn1 yn0 un32 un1 Q1 qi ri) (fun q _ => (intOf q).toNat)
    case atStart => exact ⟨q1, r1, by rw [e8], by congr 1; omega, G1⟩
    case round =>
      obtain ⟨qi, ri, rfl, rfl, G⟩ := hrel
      have g1 := G.q0
      have g2 := G.qB
      have g3 := G.r0
      have g4 := G.rB
      clear e8 e9 e1 e2 e3 e4 e5 e6 e7 f1 f2 f3 f4
      by_cases hq : 4294967296 ≤ qi
      · by_cases hr : ri + yn1 < 4294967296
        · go_wp2
          go_round
          case rel => exact ⟨_, _, rfl, rfl, G.again W1 (.inl hq) hr⟩
          case measure => simp [intOf]; omega
        · go_wp2
          go_meet
          exact ⟨by rw [G.out W1 (.inl hq) (by omega)], rfl⟩
      · obtain ⟨p1, p2, p3⟩ := prod_u64 qi yn0 g1 (by omega) b0 b0'
        have hq1 : 4294967296 * ri + un1 < qi * yn0 → 1 ≤ qi := fun h => by
          by_cases hz : qi = 0
          · rw [hz, Int.zero_mul] at h; omega
          · omega
        generalize hm : qi * yn0 = m at p1 p2 p3 hq1
        clear p1
        by_cases hc : 4294967296 * ri + un1 < m
        · have hq2 := hq1 hc
          clear hq1
          by_cases hr : ri + yn1 < 4294967296
          · go_wp2
            go_round
            case rel => exact ⟨_, _, rfl, rfl, G.again W1 (.inr (by rw [hm]; exact hc)) hr⟩
            case measure => simp [intOf]; omega
          · go_wp2
            go_meet
            exact ⟨by rw [G.out W1 (.inr (by rw [hm]; exact hc)) (by omega)], rfl⟩
        · clear hq1
          go_wp2
          go_meet
          exact ⟨by rw [G.is W1 (by rw [hm]; omega)], rfl⟩
  case rest =>
    obtain ⟨rfl, rfl⟩ := hcut
    clear e8 e9 e1 e2 e3 e4 e5 e6 e7
    go_upto_block 2 with fail
    go_cut [18] (fun q wx => q = .int .u64 Q0 ∧ w = wx)
    case first =>
      go_wp2_with fail
      go_loop [18, 16] (fun q r => ∃ qi ri : Int, q = .int .u64 qi ∧ r = .int .u64 ri ∧ Guess Y yn1 yn0 un21 un0 Q0 qi ri) (fun q _ => (intOf q).toNat)
      case atStart => exact ⟨q0, r0, by rw [f2], by congr 1; omega, G0⟩
      case round =>
        obtain ⟨qi, ri, rfl, rfl, G⟩ := hrel
        have g1 := G.q0
        have g2 := G.qB
        have g3 := G.r0
        have g4 := G.rB
        clear f1 f2 f3 f4
        by_cases hq : 4294967296 ≤ qi
        · by_cases hr : ri + yn1 < 4294967296
          · go_wp2
            go_round
            case rel => exact ⟨_, _, rfl, rfl, G.again W0 (.inl hq) hr⟩
            case measure => simp [intOf]; omega
          · go_wp2
            go_meet
            exact ⟨by rw [G.out W0 (.inl hq) (by omega)], rfl⟩
        · obtain ⟨p1, p2, p3⟩ := prod_u64 qi yn0 g1 (by omega) b0 b0'
          have hq1 : 4294967296 * ri + un0 < qi * yn0 → 1 ≤ qi := fun h => by
            by_cases hz : qi = 0
            · rw [hz, Int.zero_mul] at h; omega
            · omega
          generalize hm : qi * yn0 = m at p1 p2 p3 hq1
          clear p1
          by_cases hc : 4294967296 * ri + un0 < m
          · have hq2 := hq1 hc
            clear hq1
            by_cases hr : ri + yn1 < 4294967296
            · go_wp2
              go_round
              case rel => exact ⟨_, _, rfl, rfl, G.again W0 (.inr (by rw [hm]; exact hc)) hr⟩
              case measure => simp [intOf]; omega
            · go_wp2
              go_meet
              exact ⟨by rw [G.out W0 (.inr (by rw [hm]; exact hc)) (by omega)], rfl⟩
          · clear hq1
            go_wp2
            go_meet
            exact ⟨by rw [G.is W0 (by rw [hm]; omega)], rfl⟩
    case rest =>
      obtain ⟨rfl, rfl⟩ := hcut
      go_wp2
      go_ret2
      exact ⟨rfl, rfl⟩
end Go.Proofs.YtilkgjpgoogiiaaGreat.Sat
/-
  The contract of math/bits' Div64, whole: for every hi, lo and y with hi < y it returns the quotient and the rest of hi 2^64 + lo by y.
-/
namespace Go.Proofs.YtilkgjpgoogiiaaGreat.Sat
open Go.RowKit
theorem wrap_u64_in (n : Int) (h : 0 ≤ n) (h' : n ≤ 18446744073709551615) : IntKind.u64.wrap n = n := by
  rw [IntKind.wrap_u64]; omega
theorem wrap_diff (u c p R : Int) (h : u * 4294967296 + c - p = R) (h0 : 0 ≤ R) (h1 : R ≤ 18446744073709551615) :
    IntKind.u64.wrap (IntKind.u64.wrap (IntKind.u64.wrap (u * 4294967296) + c) - IntKind.u64.wrap p) = R := by
  simp only [IntKind.wrap_u64]
  omega
theorem guess_start {Y yn1 yn0 u c D : Int} (W : Words Y yn1 yn0 u c D) (hb : yn1 < 4294967296) : Guess Y yn1 yn0 u c D (u / yn1) (u % yn1) := by
  obtain ⟨g1, g2, g3, g4, g5, g6⟩ := Div.digit_guess Y u c yn1 yn0 W.y W.b1 W.b0 W.b0' W.u0 W.uy W.c0 W.c0'
  exact ⟨g3, by rw [W.d]; exact g1, g6, g2, g4, by omega⟩
theorem rest_of (Y u c D : Int) (hY : 0 < Y) (hD : D = (u * 4294967296 + c) / Y) : 0 ≤ u * 4294967296 + c - D * Y ∧ u * 4294967296 + c - D * Y < Y := by
  have a := Int.mul_ediv_add_emod (u * 4294967296 + c) Y
  have b := Int.emod_nonneg (u * 4294967296 + c) (show Y ≠ 0 by omega)
  have d := Int.emod_lt_of_pos (u * 4294967296 + c) hY
  rw [← hD, Int.mul_comm] at a
  omega
theorem div_pos (hi lo y : Int) (w : World) (h1 : 0 ≤ lo) (h2 : lo ≤ 18446744073709551615) (h4 : y ≤ 18446744073709551615) (h5 : 1 ≤ hi) (h6 : hi < y) :
    Calls Tryz.prog 198 #[.int .u64 hi, .int .u64 lo, .int .u64 y] w fun e w' => e = .returned (.tuple #[.int .u64 ((hi * 18446744073709551616 + lo) / y), .int .u64 ((hi * 18446744073709551616 + lo) % y)]) ∧ w = w' := by
  have h3 : 1 ≤ y := by omega
  -- how far y is moved
  obtain ⟨n, rfl⟩ := Int.eq_ofNat_of_zero_le (show 0 ≤ y by omega)
  obtain ⟨k1, k2, k3⟩ := Div.bitLen_spec _ n rfl (by omega) (by omega)
  have kle := Div.bitLen_pow 64 n (by omega) (by omega)
  generalize hL : Lib.bitLen n = L at k1 k2 k3 kle
  have hp : 2 ^ (64 - L) * 2 ^ (L - 1) = 2 ^ 63 := by rw [← Nat.pow_add]; congr 1; omega
  have hp' : 2 ^ (64 - L) * 2 ^ L = 2 ^ 64 := by rw [← Nat.pow_add]; congr 1; omega
  have hP : 0 < 2 ^ (64 - L) := Nat.pow_pos (by omega)
  have ya : 2 ^ 63 ≤ n * 2 ^ (64 - L) := by
    rw [← hp, Nat.mul_comm n]; exact Nat.mul_le_mul_left _ k2
  have yb : n * 2 ^ (64 - L) < 2 ^ 64 := by
    rw [← hp', Nat.mul_comm n]; exact Nat.mul_lt_mul_of_pos_left k3 hP
  have ya' : (2 : Int) ^ 63 ≤ (n : Int) * 2 ^ (64 - L) := by exact_mod_cast ya
  have yb' : (n : Int) * 2 ^ (64 - L) < 2 ^ 64 := by exact_mod_cast yb
  have sh := Div.shifted hi lo n h1 h2 h3 h4 h5 h6 (64 - L) (by omega) ya' yb'
  obtain ⟨s1, s2, s3, s4, s5⟩ := sh
  have hPi : (0 : Int) < 2 ^ (64 - L) := Int.pow_pos (by omega)
  have hs : ((64 - L : Nat) : Int).toNat = 64 - L := by omega
  have hs2 : (64 - ((64 - L : Nat) : Int)).toNat = 64 - (64 - L) := by omega
  generalize hk : 64 - L = k at *
  generalize hYd : (n : Int) * 2 ^ k = Y at *
  generalize hud : hi * 2 ^ k + lo / 2 ^ (64 - k) = u at *
  generalize hvd : (lo * 2 ^ k) % 18446744073709551616 = v at *
  have v0 : 0 ≤ v := by rw [← hvd]; exact Int.emod_nonneg _ (by omega)
  have v1 : v < 18446744073709551616 := by rw [← hvd]; exact Int.emod_lt_of_pos _ (by omega)
  have hY0 : 0 < Y := by omega
  have W1 : Words Y (Y / 4294967296) (Y % 4294967296) u (v / 4294967296) ((u * 4294967296 + v / 4294967296) / Y) := ⟨by omega, by omega, by omega, by omega, s1, s2, by omega, by omega, rfl⟩
  have D1 := Div.digit_bd Y u (v / 4294967296) s1 s2 (by omega) (by omega)
  generalize hQ1 : (u * 4294967296 + v / 4294967296) / Y = Q1 at *
  have R1 := rest_of Y u (v / 4294967296) Q1 hY0 hQ1.symm
  generalize hun21 : u * 4294967296 + v / 4294967296 - Q1 * Y = un21 at *
  have W0 : Words Y (Y / 4294967296) (Y % 4294967296) un21 (v % 4294967296) ((un21 * 4294967296 + v % 4294967296) / Y) := ⟨by omega, by omega, by omega, by omega, R1.1, R1.2, by omega, by omega, rfl⟩
  have D0 := Div.digit_bd Y un21 (v % 4294967296) R1.1 R1.2 (by omega) (by omega)
  generalize hQ0 : (un21 * 4294967296 + v % 4294967296) / Y = Q0 at *
  have R0 := rest_of Y un21 (v % 4294967296) Q0 hY0 hQ0.symm
  generalize hR : un21 * 4294967296 + v % 4294967296 - Q0 * Y = R at *
  have G1 := guess_start W1 (by omega)
  have G0 := guess_start W0 (by omega)
  have g1 := G1.qr
  have g0 := G0.qr
  have a1 := G1.q0
  have a2 := G1.qB
  have a3 := G1.r0
  have a5 := G0.q0
  have a6 := G0.qB
  have a7 := G0.r0
  have l1 := Int.emod_lt_of_pos u (show 0 < Y / 4294967296 by omega)
  have l0 := Int.emod_lt_of_pos un21 (show 0 < Y / 4294967296 by omega)
  have p1 : 0 ≤ u / (Y / 4294967296) * (Y / 4294967296) := Int.mul_nonneg a1 (by omega)
  have p0 : 0 ≤ un21 / (Y / 4294967296) * (Y / 4294967296) := Int.mul_nonneg a5 (by omega)
  have fin := Div.two_digits (hi * 18446744073709551616 + lo) n (2 ^ k) Y u (v % 4294967296) Q1 Q0 (v / 4294967296) hPi (by omega) hYd.symm (by rw [← s3]; omega) hQ1.symm (by rw [hun21]; exact hQ0.symm)
  rw [hun21, hR] at fin
  obtain ⟨fq, fr⟩ := fin
  have hor := Div.or_add hi (lo / 2 ^ (64 - k)) k (by omega) s4 s5 (by rw [hud]; omega)
  have hhi : 0 ≤ hi * 2 ^ k := Int.mul_nonneg (by omega) (by omega)
  refine (div_walk hi lo n (k : Int) Y (Y / 4294967296) (Y % 4294967296) u v (v / 4294967296) (v % 4294967296) (u / (Y / 4294967296)) (u % (Y / 4294967296)) Q1 un21 (un21 / (Y / 4294967296)) (un21 % (Y / 4294967296)) Q0 R w
    h1 h2 h3 h4 h5 h6 (by omega) (by omega) (Lib.hid (by rw [show ((n : Int)).toNat = n by omega, hL]; omega))
    (by rw [hs, hYd, wrap_u64_in _ (by omega) (by omega)]) rfl (Div.and_low Y (by omega) (by omega))
    (by rw [hs, hs2, wrap_u64_in (hi * 2 ^ k) (by omega) (by omega), hor, hud])
    (by rw [hs, IntKind.wrap_u64]; exact hvd) rfl (Div.and_low v v0 (by omega))
    rfl (by rw [wrap_u64_in _ (by omega) (by omega)]; omega)
    (by omega) (by omega) (by omega) (by omega) (by omega) (by omega) (by omega) (by omega) (by omega) (by omega) a1 a2 a3 l1 (by omega) (by omega) (by omega)
    (wrap_diff u (v / 4294967296) (Q1 * Y) un21 hun21 R1.1 (by omega)) rfl (by rw [wrap_u64_in _ (by omega) (by omega)]; omega)
    (wrap_diff un21 (v % 4294967296) (Q0 * Y) R hR R0.1 (by omega))
    D1.1 D1.2 D0.1 D0.2 R1.1 (by omega) a5 a6 a7 l0 (by omega) R0.1 (by omega) W1 G1 W0 G0).mono fun e w' h => ⟨?_, h.2⟩
  rw [h.1, fq, hs, fr]
theorem div_any (hi lo y : Int) (w : World) (h0 : 0 ≤ hi) (h1 : 0 ≤ lo) (h2 : lo ≤ 18446744073709551615) (h4 : y ≤ 18446744073709551615) (h6 : hi < y) :
    Calls Tryz.prog 198 #[.int .u64 hi, .int .u64 lo, .int .u64 y] w fun e w' => e = .returned (.tuple #[.int .u64 ((hi * 18446744073709551616 + lo) / y), .int .u64 ((hi * 18446744073709551616 + lo) % y)]) ∧ Kept w w' := by
  by_cases h : hi = 0
  · subst h
    refine (div_zero lo y w h1 h2 (by omega) h4).mono fun e w' h => ⟨?_, h.2⟩
    rw [h.1, Int.zero_mul, Int.zero_add]
  · exact (div_pos hi lo y w h1 h2 h4 (by omega) h6).mono fun e w' h => ⟨h.1, by rw [← h.2]; exact Kept.refl _⟩
end Go.Proofs.YtilkgjpgoogiiaaGreat.Sat
