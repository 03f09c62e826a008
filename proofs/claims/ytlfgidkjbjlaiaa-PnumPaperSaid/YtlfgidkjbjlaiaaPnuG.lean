/-
  Mathematics of the paper's own steps; the bits of a number above its last bytes.
-/
import Derived.Test.YtlfgidkjbjlaiaaPnuF
namespace Go.Proofs.Ytlfgidkjbjlaiaa.Law
open Go.RowKit OctM Oct PnuM Pnu
set_option linter.unusedSimpArgs false
set_option linter.unusedVariables false

/-- The last j bits are struck. -/
theorem andNot_low (a : Int) (j : Nat) (hj : j ≤ 32) (h0 : 0 ≤ a) (h1 : a ≤ 9007199254740992) : bits .andNot .i64 a ((2 ^ j - 1 : Nat) : Int) = a - a % ((2 ^ j : Nat) : Int) := by
  show IntKind.i64.wrap (((BitVec.ofInt 64 a &&& ~~~ BitVec.ofInt 64 ((2 ^ j - 1 : Nat) : Int)).toNat : Nat) : Int) = _
  obtain ⟨n, rfl⟩ := Int.eq_ofNat_of_zero_le h0
  have e : BitVec.ofInt 64 (n : Int) &&& ~~~ BitVec.ofInt 64 ((2 ^ j - 1 : Nat) : Int) = (BitVec.ofNat 64 n >>> j) <<< j := by
    apply BitVec.eq_of_getLsbD_eq
    intro i hi
    have h1 : BitVec.ofInt 64 (n : Int) = BitVec.ofNat 64 n := rfl
    have h2 : BitVec.ofInt 64 ((2 ^ j - 1 : Nat) : Int) = BitVec.ofNat 64 (2 ^ j - 1) := rfl
    rw [h1, h2]
    simp only [BitVec.getLsbD_and, BitVec.getLsbD_not, BitVec.getLsbD_shiftLeft, BitVec.getLsbD_ushiftRight, BitVec.getLsbD_ofNat, Nat.testBit_two_pow_sub_one, hi, decide_true, Bool.true_and]
    by_cases hij : i < j
    · simp [hij]
    · have : j + (i - j) = i := by omega
      simp [hij, this, hi]
  rw [e, BitVec.toNat_shiftLeft, BitVec.toNat_ushiftRight, BitVec.toNat_ofNat, Nat.shiftRight_eq_div_pow, Nat.shiftLeft_eq]
  have hn : n % 2 ^ 64 = n := Nat.mod_eq_of_lt (by omega)
  rw [hn]
  have hd : n / 2 ^ j * 2 ^ j = n - n % 2 ^ j := by
    have := Nat.div_add_mod n (2 ^ j)
    rw [Nat.mul_comm] at this; omega
  have hle : n - n % 2 ^ j ≤ n := Nat.sub_le _ _
  rw [hd, Nat.mod_eq_of_lt (by omega), IntKind.wrap_i64]
  have hm : n % 2 ^ j ≤ n := Nat.mod_le _ _
  rw [Int.ofNat_sub hm]
  have : ((n % 2 ^ j : Nat) : Int) = (n : Int) % ((2 ^ j : Nat) : Int) := by simp
  rw [← this]
  generalize n % 2 ^ j = r at *
  omega

theorem or_low (q y : Int) (j : Nat) (h0 : 0 ≤ q) (h1 : q * ((2 ^ j : Nat) : Int) ≤ 9007199254740992) (h2 : 0 ≤ y) (h3 : y < ((2 ^ j : Nat) : Int)) (hj : j ≤ 32) : bits .or .i64 (q * ((2 ^ j : Nat) : Int)) y = q * ((2 ^ j : Nat) : Int) + y := by
  show IntKind.i64.wrap (((BitVec.ofInt 64 (q * ((2 ^ j : Nat) : Int)) ||| BitVec.ofInt 64 y).toNat : Nat) : Int) = _
  obtain ⟨m, rfl⟩ := Int.eq_ofNat_of_zero_le h0
  obtain ⟨z, rfl⟩ := Int.eq_ofNat_of_zero_le h2
  have hz : z < 2 ^ j := Int.ofNat_lt.1 h3
  have hj2 : 2 ^ j ≤ 2 ^ 32 := Nat.pow_le_pow_right (by decide) hj
  have hm : m * 2 ^ j ≤ 9007199254740992 := by
    have e0 : (m : Int) * ((2 ^ j : Nat) : Int) = ((m * 2 ^ j : Nat) : Int) := (Int.natCast_mul _ _).symm
    rw [e0] at h1; omega
  have e1 : (BitVec.ofInt 64 ((m : Int) * ((2 ^ j : Nat) : Int))).toNat = 2 ^ j * m := by
    have : (m : Int) * ((2 ^ j : Nat) : Int) = ((m * 2 ^ j : Nat) : Int) := (Int.natCast_mul _ _).symm
    rw [this]
    show (BitVec.ofNat 64 (m * 2 ^ j)).toNat = _
    rw [BitVec.toNat_ofNat, Nat.mod_eq_of_lt (by omega), Nat.mul_comm]
  have e2 : (BitVec.ofInt 64 (z : Int)).toNat = z := by
    show (BitVec.ofNat 64 z).toNat = _
    rw [BitVec.toNat_ofNat, Nat.mod_eq_of_lt (by omega)]
  have e3 : 2 ^ j * m + z = 2 ^ j * m ||| z := Nat.two_pow_add_eq_or_of_lt hz _
  rw [BitVec.toNat_or, e1, e2, ← e3, IntKind.wrap_i64]
  have e4 : ((2 ^ j * m + z : Nat) : Int) = (m : Int) * ((2 ^ j : Nat) : Int) + (z : Int) := by rw [Int.natCast_add, Int.natCast_mul, Int.mul_comm]
  rw [e4]
  have e5 : (m : Int) * ((2 ^ j : Nat) : Int) = ((m * 2 ^ j : Nat) : Int) := (Int.natCast_mul _ _).symm
  rw [e5]
  omega

/-- The bits above, and the last bytes. -/
theorem paper_bits (E V s : Int) (j : Nat) (hs : s = ((2 ^ j : Nat) : Int)) (hj : j ≤ 32) (h0 : 0 ≤ E) (h1 : E ≤ 9007199254740992) (hv0 : 0 ≤ V) (hv1 : V < s) :
    ∃ D, bits .andNot .i64 E (s - 1) = D ∧ bits .or .i64 D V = D + V ∧ D = E - E % s := by
  subst hs
  have hp : 1 ≤ 2 ^ j := Nat.one_le_two_pow
  have e : ((2 ^ j : Nat) : Int) - 1 = ((2 ^ j - 1 : Nat) : Int) := by omega
  have hD : E - E % ((2 ^ j : Nat) : Int) = E / ((2 ^ j : Nat) : Int) * ((2 ^ j : Nat) : Int) := by
    have := Int.emod_add_mul_ediv E ((2 ^ j : Nat) : Int)
    rw [Int.mul_comm] at this
    omega
  have hr : 0 ≤ E % ((2 ^ j : Nat) : Int) := Int.emod_nonneg _ (by omega)
  refine ⟨_, rfl, ?_, ?_⟩
  · rw [e, andNot_low E j hj h0 h1, hD]
    exact or_low _ _ j (Int.ediv_nonneg h0 (by omega)) (by rw [← hD]; omega) hv0 hv1 hj
  · rw [e, andNot_low E j hj h0 h1]

/-- The paper's steps, way by way: X is what is found, C the first candidate. -/
def Ways (E s h C X : Int) : Prop :=
  (C ≤ E - h ∧ C < 9007199254740992 - s ∧ X = C + s) ∨ (C ≤ E - h ∧ 9007199254740992 - s ≤ C ∧ X = C) ∨ (E - h < C ∧ E + h < C ∧ s ≤ C ∧ X = C - s) ∨
  (E - h < C ∧ E + h < C ∧ s ≤ C ∧ X ≠ C - s ∧ 9007199254740991 < C - s) ∨
  (E - h < C ∧ (C ≤ E + h ∨ C < s) ∧ X = C) ∨ (E - h < C ∧ (C ≤ E + h ∨ C < s) ∧ X ≠ C ∧ 9007199254740991 < C)

theorem ways_of (E V s h : Int) (hs : (s = 256 ∧ h = 128) ∨ (s = 65536 ∧ h = 32768) ∨ (s = 16777216 ∧ h = 8388608) ∨ (s = 4294967296 ∧ h = 2147483648)) (h0 : 0 ≤ E) (h1 : E ≤ 9007199254740991) (hv0 : 0 ≤ V) (hv1 : V < s) :
    Ways E s h (E - E % s + V) (near E V s) := by
  unfold Ways near low
  rcases hs with ⟨rfl, rfl⟩ | ⟨rfl, rfl⟩ | ⟨rfl, rfl⟩ | ⟨rfl, rfl⟩
  all_goals
    repeat' split
    all_goals omega

end Go.Proofs.Ytlfgidkjbjlaiaa.Law
