/-
  Plain mathematics of probe timeouts: the base of an estimate in a space, how long nothing may come through, what is doubled as often as a count says. Nothing here speaks of a program.
-/
import Derived.Test.YtdfjceghhjecaaaRttM
import Derived.Test.YtdfjceghhjecaaaSatM
namespace Go.Proofs.Ytdfjceghhjecaaa.PtoM
open RttM
set_option linter.unusedVariables false
set_option linter.unusedSimpArgs false

set_option maxRecDepth 100000 in
theorem num_def (n : Int) : Sat.num n = max 0 (min n 9007199254740991) := (Sat.num_max n).symm
set_option maxRecDepth 100000 in
theorem ok_bd {r : Rt} (h : chk r = 0) : 0 ≤ r.s ∧ r.s ≤ 9007199254740991 ∧ 0 ≤ r.v ∧ r.v ≤ 9007199254740991 := by
  rcases ok_cases h with ⟨h1, h2, _, _, h3, _⟩ | ⟨_, _, ⟨h1, h2⟩, ⟨h3, h4⟩, _⟩
  · omega
  · exact ⟨h1, h2, h3, h4⟩

/-- What is waited in a space that is there, without bounds. -/
def raw (r : Rt) (sp d : Int) : Int := r.s + max (4 * r.v) 1000000 + (if sp = 2 then Sat.num d else 0)
/-- The base. -/
def bas (r : Rt) (sp d : Int) : Int := if chk r = 0 then (if 0 ≤ sp ∧ sp < 3 then Sat.num (raw r sp d) else 0) else 0
set_option maxRecDepth 100000 in
theorem bas_none {r : Rt} (h : ¬ chk r = 0) (sp d : Int) : bas r sp d = 0 := if_neg h
set_option maxRecDepth 100000 in
theorem bas_far {r : Rt} {sp : Int} (h : ¬ (0 ≤ sp ∧ sp < 3)) (d : Int) : bas r sp d = 0 := by unfold bas; rw [if_neg h]; split <;> rfl
set_option maxRecDepth 100000 in
theorem bas_in {r : Rt} {sp : Int} (h : chk r = 0) (h' : 0 ≤ sp ∧ sp < 3) (d : Int) : bas r sp d = Sat.num (raw r sp d) := by unfold bas; rw [if_pos h, if_pos h']
set_option maxRecDepth 100000 in
theorem bas_bd (r : Rt) (sp d : Int) : 0 ≤ bas r sp d ∧ bas r sp d ≤ 9007199254740991 := by
  have := Sat.num_bd (raw r sp d)
  unfold bas
  split
  · split
    · exact this
    · omega
  · omega
set_option maxRecDepth 100000 in
/-- The first sum, as the program makes it. -/
theorem sum_one {r : Rt} (h : chk r = 0) {m : Int} (hm : m = max (Sat.mul 4 r.v) 1000000) : Sat.add r.s m = Sat.num (r.s + max (4 * r.v) 1000000) := by
  obtain ⟨h1, h2, h3, h4⟩ := ok_bd h
  subst hm
  unfold Sat.add Sat.mul
  rw [Sat.num_id 4 (by omega) (by omega), Sat.num_id _ h3 h4]
  simp only [num_def]
  omega
set_option maxRecDepth 100000 in
theorem bas_low {r : Rt} {sp : Int} (h : chk r = 0) (h' : 0 ≤ sp) (h'' : sp < 2) (d : Int) : bas r sp d = Sat.num (r.s + max (4 * r.v) 1000000) := by
  rw [bas_in h ⟨h', by omega⟩]; unfold raw; rw [if_neg (by omega), Int.add_zero]
set_option maxRecDepth 100000 in
theorem bas_app {r : Rt} (h : chk r = 0) (d : Int) : bas r 2 d = Sat.add (Sat.num (r.s + max (4 * r.v) 1000000)) d := by
  obtain ⟨h1, h2, h3, h4⟩ := ok_bd h
  rw [bas_in h (by omega)]; unfold raw; rw [if_pos rfl]
  unfold Sat.add
  have := Sat.num_bd d
  generalize Sat.num d = D at *
  simp only [num_def]
  omega
/-- How long nothing may come through. -/
def pers (r : Rt) (d : Int) : Int := Sat.num (3 * bas r 2 d)
set_option maxRecDepth 100000 in
theorem pers_mul (r : Rt) (d : Int) : Sat.mul 3 (bas r 2 d) = pers r d := by
  have h := bas_bd r 2 d
  unfold Sat.mul pers
  rw [Sat.num_id 3 (by omega) (by omega), Sat.num_id _ h.1 h.2]

/-- One doubling, and many. -/
def dbl (n : Int) : Int := min (2 * n) 9007199254740991
def pow : Nat → Int → Int
  | 0, n => n
  | k + 1, n => dbl (pow k n)
set_option maxRecDepth 100000 in
theorem pow_succ' (k : Nat) (n : Int) : pow (k + 1) n = dbl (pow k n) := rfl
set_option maxRecDepth 100000 in
theorem pow_add (a b : Nat) (n : Int) : pow (a + b) n = pow b (pow a n) := by
  induction b with
  | zero => rfl
  | succ b ih => rw [← Nat.add_assoc, pow_succ', ih]; rfl
set_option maxRecDepth 100000 in
theorem dbl_bd {n : Int} (h : 0 ≤ n) (h' : n ≤ 9007199254740991) : n ≤ dbl n ∧ dbl n ≤ 9007199254740991 := by unfold dbl; omega
set_option maxRecDepth 100000 in
theorem pow_bd {n : Int} (h : 0 ≤ n) (h' : n ≤ 9007199254740991) (k : Nat) : n ≤ pow k n ∧ pow k n ≤ 9007199254740991 := by
  induction k with
  | zero => exact ⟨Int.le_refl _, h'⟩
  | succ k ih => have := dbl_bd (n := pow k n) (by omega) ih.2; rw [pow_succ']; omega
set_option maxRecDepth 100000 in
theorem dbl_mono {a b : Int} (h : a ≤ b) : dbl a ≤ dbl b := by unfold dbl; omega
set_option maxRecDepth 100000 in
theorem pow_mono {a b : Int} (h : a ≤ b) (k : Nat) : pow k a ≤ pow k b := by
  induction k with
  | zero => exact h
  | succ k ih => exact dbl_mono ih
set_option maxRecDepth 100000 in
theorem pow_rise {n : Int} (h : 0 ≤ n) (h' : n ≤ 9007199254740991) {a b : Nat} (hab : a ≤ b) : pow a n ≤ pow b n := by
  obtain ⟨c, rfl⟩ := Nat.le.dest hab
  have h1 := pow_bd h h' a
  rw [pow_add]
  exact (pow_bd (by omega) h1.2 c).1
set_option maxRecDepth 100000 in
theorem pow_fix {n : Int} (h : n = 0 ∨ n = 9007199254740991) (k : Nat) : pow k n = n := by
  induction k with
  | zero => rfl
  | succ k ih => rw [pow_succ', ih]; unfold dbl; omega
set_option maxRecDepth 100000 in
/-- Where nothing turns any more it stays so. -/
theorem pow_stop {n : Int} {a b : Nat} (h : pow a n = 0 ∨ pow a n = 9007199254740991) (hab : a ≤ b) : pow b n = pow a n := by
  obtain ⟨c, rfl⟩ := Nat.le.dest hab
  rw [pow_add, pow_fix h]
set_option maxRecDepth 100000 in
theorem pow_eq {n : Int} (h : 0 ≤ n) (h' : n ≤ 9007199254740991) (k : Nat) : pow k n = min (n * 2 ^ k) 9007199254740991 := by
  induction k with
  | zero => show n = _; rw [Int.pow_zero]; omega
  | succ k ih =>
    rw [pow_succ', ih, Int.pow_succ, ← Int.mul_assoc]
    unfold dbl
    generalize n * 2 ^ k = z
    omega
set_option maxRecDepth 100000 in
/-- Behind sixty doublings nothing turns any more. -/
theorem pow_sixty {n : Int} (h : 0 ≤ n) (h' : n ≤ 9007199254740991) {k : Nat} (hk : 60 ≤ k) : pow k n = pow 60 n := by
  refine pow_stop ?_ hk
  rw [pow_eq h h', show (2 : Int) ^ 60 = 1152921504606846976 from rfl]
  omega
/-- What is backed off. -/
def bk (n count most : Int) : Int := pow (min count most).toNat (Sat.num n)
set_option maxRecDepth 100000 in
theorem bk_bd (n count most : Int) : Sat.num n ≤ bk n count most ∧ bk n count most ≤ 9007199254740991 := pow_bd (Sat.num_bd n).1 (Sat.num_bd n).2 _
set_option maxRecDepth 100000 in
theorem bk_sixty (n count most : Int) : pow (min (min count most) 60).toNat (Sat.num n) = bk n count most := by
  unfold bk
  by_cases h : min count most ≤ 60
  · rw [show min (min count most) 60 = min count most by omega]
  · rw [show (min (min count most) 60).toNat = 60 by omega]
    exact (pow_sixty (Sat.num_bd n).1 (Sat.num_bd n).2 (by omega)).symm
set_option maxRecDepth 100000 in
theorem bk_mono {n n' c c' m m' : Int} (h1 : n ≤ n') (h2 : c ≤ c') (h3 : m ≤ m') : bk n c m ≤ bk n' c' m' := by
  unfold bk
  have a := pow_mono (Sat.num_mono n n' h1) (min c m).toNat
  have b := pow_rise (n := Sat.num n') (Sat.num_bd n').1 (Sat.num_bd n').2 (a := (min c m).toNat) (b := (min c' m').toNat) (by omega)
  omega
/-- When the waiting is over. -/
def ovr (t d : Int) : Int := if 0 ≤ t ∧ t ≤ 9007199254740991 then Sat.add t d else -1
set_option maxRecDepth 100000 in
theorem ovr_in {t : Int} (h : 0 ≤ t) (h' : t ≤ 9007199254740991) (d : Int) : ovr t d = Sat.add t d := if_pos ⟨h, h'⟩
set_option maxRecDepth 100000 in
theorem ovr_out {t : Int} (h : ¬ (0 ≤ t ∧ t ≤ 9007199254740991)) (d : Int) : ovr t d = -1 := if_neg h
end Go.Proofs.Ytdfjceghhjecaaa.PtoM
