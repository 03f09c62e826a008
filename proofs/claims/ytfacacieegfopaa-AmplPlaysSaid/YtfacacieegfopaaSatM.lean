/-
  Plain mathematics of layer 1 (saturating arithmetic on numbers and times): what the functions of package sat return, and what holds of that.
-/
import Init
namespace Go.Proofs.Ytfacacieegfopaa.Sat
set_option linter.unusedVariables false
set_option linter.unusedSimpArgs false

/-- What counts as a number. -/
def num (n : Int) : Int := if n < 0 then 0 else if 9007199254740991 < n then 9007199254740991 else n
def isB (n : Int) : Bool := decide (0 ≤ n ∧ n ≤ 9007199254740991)
def istB (n : Int) : Bool := decide (n = -1 ∨ (0 ≤ n ∧ n ≤ 9007199254740991))
/-- As what time something counts. -/
def tm (t : Int) : Int := if 0 ≤ t ∧ t ≤ 9007199254740991 then t else -1
def befB (a b : Int) : Bool := decide (a ≠ -1 ∧ (b = -1 ∨ a < b))
def add (a b : Int) : Int := num (num a + num b)
def sub (a b : Int) : Int := num (num a - num b)
def mul (a b : Int) : Int := num (num a * num b)
def earlier (a b : Int) : Int := if befB (tm b) (tm a) then tm b else tm a
def later (a b : Int) : Int := if befB (tm b) (tm a) then tm a else tm b
def ends (t d : Int) : Int := if tm t = -1 then -1 else add t d
/-- a b / c, downwards, and what is left. -/
def mulq (a b c : Int) : Int := if num c = 0 ∨ 9007199254740991 < num a * num b / num c then 9007199254740991 else num a * num b / num c
def mulr (a b c : Int) : Int := if num c = 0 ∨ 9007199254740991 < num a * num b / num c then 0 else num a * num b % num c
def mulup (a b c : Int) : Int := if 0 < mulr a b c then add (mulq a b c) 1 else mulq a b c

set_option maxRecDepth 100000 in
theorem num_lo (n : Int) (h : n < 0) : num n = 0 := by simp [num, h]
set_option maxRecDepth 100000 in
theorem num_hi (n : Int) (h : 9007199254740991 < n) : num n = 9007199254740991 := by
  unfold num; rw [if_neg (by omega), if_pos h]
set_option maxRecDepth 100000 in
theorem num_id (n : Int) (h : 0 ≤ n) (h' : n ≤ 9007199254740991) : num n = n := by
  unfold num; rw [if_neg (by omega), if_neg (by omega)]
set_option maxRecDepth 100000 in
theorem num_top (n : Int) (h : 9007199254740991 ≤ n) : num n = 9007199254740991 := by
  unfold num; split <;> (try split) <;> omega
set_option maxRecDepth 100000 in
theorem num_bd (n : Int) : 0 ≤ num n ∧ num n ≤ 9007199254740991 := by
  unfold num; split <;> (try split) <;> omega
set_option maxRecDepth 100000 in
theorem num_num (n : Int) : num (num n) = num n := num_id _ (num_bd n).1 (num_bd n).2
set_option maxRecDepth 100000 in
theorem num_max (n : Int) : max 0 (min n 9007199254740991) = num n := by
  unfold num; split <;> (try split) <;> omega
set_option maxRecDepth 100000 in
theorem num_mono (a b : Int) (h : a ≤ b) : num a ≤ num b := by
  rw [← num_max, ← num_max]; omega
set_option maxRecDepth 100000 in
theorem num_cases (n : Int) (h : 0 ≤ n) : (n ≤ 9007199254740991 ∧ num n = n) ∨ (9007199254740991 < n ∧ num n = 9007199254740991) := by
  by_cases hn : n ≤ 9007199254740991
  · exact .inl ⟨hn, num_id n h hn⟩
  · exact .inr ⟨by omega, num_hi n (by omega)⟩

set_option maxRecDepth 100000 in
theorem add_bd (a b : Int) : 0 ≤ add a b ∧ add a b ≤ 9007199254740991 := num_bd _
set_option maxRecDepth 100000 in
theorem sub_bd (a b : Int) : 0 ≤ sub a b ∧ sub a b ≤ 9007199254740991 := num_bd _
set_option maxRecDepth 100000 in
theorem mul_bd (a b : Int) : 0 ≤ mul a b ∧ mul a b ≤ 9007199254740991 := num_bd _

set_option maxRecDepth 100000 in
theorem add_comm (a b : Int) : add a b = add b a := by unfold add; rw [Int.add_comm]
set_option maxRecDepth 100000 in
theorem mul_comm (a b : Int) : mul a b = mul b a := by unfold mul; rw [Int.mul_comm]
set_option maxRecDepth 100000 in
theorem add_assoc (a b c : Int) : add (add a b) c = add a (add b c) := by
  unfold add
  rw [num_num, num_num]
  have ha := num_bd a; have hb := num_bd b; have hc := num_bd c
  generalize num a = A at *; generalize num b = B at *; generalize num c = C at *
  rcases num_cases (A + B) (by omega) with ⟨h1, e1⟩ | ⟨h1, e1⟩ <;> rcases num_cases (B + C) (by omega) with ⟨h2, e2⟩ | ⟨h2, e2⟩ <;> rw [e1, e2]
  · rw [Int.add_assoc]
  · rw [num_top _ (by omega), num_top _ (by omega)]
  · rw [num_top _ (by omega), num_top _ (by omega)]
  · rw [num_top _ (by omega), num_top _ (by omega)]
set_option maxRecDepth 100000 in
theorem mul_le_l (x y : Int) (hx : 0 ≤ x) (hy : 1 ≤ y) : x ≤ x * y := by
  have := Int.mul_le_mul_of_nonneg_left hy hx
  omega
set_option maxRecDepth 100000 in
theorem mul_assoc (a b c : Int) : mul (mul a b) c = mul a (mul b c) := by
  unfold mul
  rw [num_num, num_num]
  have ha := num_bd a; have hb := num_bd b; have hc := num_bd c
  generalize num a = A at *; generalize num b = B at *; generalize num c = C at *
  have hab : 0 ≤ A * B := Int.mul_nonneg ha.1 hb.1
  have hbc : 0 ≤ B * C := Int.mul_nonneg hb.1 hc.1
  by_cases hA : A = 0
  · subst hA; simp [num]
  by_cases hC : C = 0
  · subst hC; simp [num]
  have eA := mul_le_l (B * C) A hbc (by omega)
  have eC := mul_le_l (A * B) C hab (by omega)
  have mA := mul_le_l 9007199254740991 A (by omega) (by omega)
  have mC := mul_le_l 9007199254740991 C (by omega) (by omega)
  have e : A * (B * C) = A * B * C := (Int.mul_assoc A B C).symm
  have e' : B * C * A = A * B * C := by rw [Int.mul_comm, e]
  rcases num_cases (A * B) hab with ⟨h1, e1⟩ | ⟨h1, e1⟩ <;> rcases num_cases (B * C) hbc with ⟨h2, e2⟩ | ⟨h2, e2⟩ <;> rw [e1, e2]
  · rw [e]
  · rw [Int.mul_comm A 9007199254740991, num_top _ mA, num_top (A * B * C) (by omega)]
  · rw [num_top _ mC, num_top (A * (B * C)) (by omega)]
  · rw [Int.mul_comm A 9007199254740991, num_top _ mC, num_top _ mA]
set_option maxRecDepth 100000 in
theorem sub_add (a b : Int) (h : add a b ≠ 9007199254740991) : sub (add a b) b = num a := by
  have ha := num_bd a; have hb := num_bd b
  have e : add a b = num a + num b := by
    unfold add at h ⊢
    rcases num_cases (num a + num b) (by omega) with ⟨h1, e1⟩ | ⟨h1, e1⟩
    · exact e1
    · omega
  have h2 := add_bd a b
  unfold sub
  rw [num_id (add a b) h2.1 h2.2, e, show num a + num b - num b = num a by omega, num_num]
set_option maxRecDepth 100000 in
theorem sub_self (a : Int) : sub a a = 0 := by unfold sub; rw [Int.sub_self]; rfl
set_option maxRecDepth 100000 in
theorem mul_one (a : Int) : mul a 1 = num a := by
  unfold mul; rw [show num 1 = 1 from rfl, Int.mul_one, num_num]
set_option maxRecDepth 100000 in
theorem mul_zero (a : Int) : mul a 0 = 0 := by
  unfold mul; rw [show num 0 = 0 from rfl, Int.mul_zero]; rfl
set_option maxRecDepth 100000 in
theorem add_zero (a : Int) : add a 0 = num a := by
  unfold add; rw [show num 0 = 0 from rfl, Int.add_zero, num_num]

set_option maxRecDepth 100000 in
theorem add_mono (a b c d : Int) (h : a ≤ b) (h' : c ≤ d) : add a c ≤ add b d := by
  have h1 := num_mono a b h
  have h2 := num_mono c d h'
  exact num_mono _ _ (by omega)
set_option maxRecDepth 100000 in
theorem mul_mono (a b c d : Int) (h : a ≤ b) (h' : c ≤ d) : mul a c ≤ mul b d :=
  num_mono _ _ (Int.mul_le_mul (num_mono _ _ h) (num_mono _ _ h') (num_bd _).1 (num_bd _).1)
set_option maxRecDepth 100000 in
theorem sub_mono (a b c d : Int) (h : a ≤ b) (h' : d ≤ c) : sub a c ≤ sub b d := by
  have h1 := num_mono a b h
  have h2 := num_mono d c h'
  exact num_mono _ _ (by omega)
set_option maxRecDepth 100000 in
theorem le_add (a b : Int) : num a ≤ add a b := by
  have ha := num_bd a; have hb := num_bd b
  have := num_mono (num a) (num a + num b) (by omega)
  rw [num_num] at this; exact this

set_option maxRecDepth 100000 in
theorem prod_bd (a b : Int) : 0 ≤ num a * num b ∧ num a * num b ≤ 81129638414606663681390495662081 := by
  have ha := num_bd a
  have hb := num_bd b
  refine ⟨Int.mul_nonneg ha.1 hb.1, ?_⟩
  exact Int.mul_le_mul ha.2 hb.2 hb.1 (by omega)

set_option maxRecDepth 100000 in
theorem mulq_bd (a b c : Int) : 0 ≤ mulq a b c ∧ mulq a b c ≤ 9007199254740991 := by
  unfold mulq; split
  · omega
  · rename_i h
    have := Int.ediv_nonneg (prod_bd a b).1 (num_bd c).1
    omega

set_option maxRecDepth 100000 in
theorem mulr_bd (a b c : Int) : 0 ≤ mulr a b c ∧ mulr a b c ≤ 9007199254740991 := by
  unfold mulr; split
  · omega
  · rename_i h
    have hc := num_bd c
    have h1 := Int.emod_nonneg (num a * num b) (show num c ≠ 0 by omega)
    have h2 := Int.emod_lt_of_pos (num a * num b) (show 0 < num c by omega)
    omega

set_option maxRecDepth 100000 in
theorem mulup_bd (a b c : Int) : 0 ≤ mulup a b c ∧ mulup a b c ≤ 9007199254740991 := by
  unfold mulup; split
  · exact add_bd _ _
  · exact mulq_bd _ _ _

set_option maxRecDepth 100000 in
theorem mulq_one (a b : Int) : mulq a b 1 = mul a b := by
  have h := prod_bd a b
  have e : num 1 = 1 := num_id 1 (by omega) (by omega)
  unfold mulq mul
  rw [e, Int.ediv_one]
  split
  · rw [num_hi _ (by omega)]
  · rw [num_id _ h.1 (by omega)]

set_option maxRecDepth 100000 in
/-- For a divisor that is not nought the quotient is cut at the greatest number. -/
theorem mulq_num (a b c : Int) (hc : 1 ≤ num c) : mulq a b c = num (num a * num b / num c) := by
  have h := Int.ediv_nonneg (prod_bd a b).1 (num_bd c).1
  unfold mulq
  split
  · rw [num_hi _ (by omega)]
  · rw [num_id _ h (by omega)]

set_option maxRecDepth 100000 in
theorem mulq_mono (a b c d e : Int) (h : a ≤ b) (h' : c ≤ d) : mulq a c e ≤ mulq b d e := by
  by_cases he : num e = 0
  · unfold mulq; rw [if_pos (.inl he), if_pos (.inl he)]; omega
  · have := num_bd e
    rw [mulq_num _ _ _ (by omega), mulq_num _ _ _ (by omega)]
    refine num_mono _ _ (Int.ediv_le_ediv (by omega) ?_)
    exact Int.mul_le_mul (num_mono _ _ h) (num_mono _ _ h') (num_bd _).1 (num_bd _).1

set_option maxRecDepth 100000 in
theorem mulq_anti (a b c d : Int) (h : c ≤ d) : mulq a b d ≤ mulq a b c := by
  by_cases hc : num c = 0
  · have := mulq_bd a b d
    have e : mulq a b c = 9007199254740991 := by unfold mulq; rw [if_pos (.inl hc)]
    omega
  · have h1 := num_bd c
    have h2 := num_mono c d h
    have hp := (prod_bd a b).1
    rw [mulq_num _ _ _ (by omega), mulq_num _ _ _ (by omega)]
    refine num_mono _ _ (Int.le_ediv_of_mul_le (by omega) ?_)
    have h3 := Int.ediv_mul_le (num a * num b) (show num d ≠ 0 by omega)
    have h4 : 0 ≤ num a * num b / num d := Int.ediv_nonneg hp (by omega)
    have h5 := Int.mul_le_mul_of_nonneg_left h2 h4
    omega

set_option maxRecDepth 100000 in
/-- Upwards: what is the least number that is enough. -/
theorem mulup_num (a b c : Int) (hc : 1 ≤ num c) : mulup a b c = num ((num a * num b + num c - 1) / num c) := by
  have hp := (prod_bd a b).1
  have hd := Int.mul_ediv_add_emod (num a * num b) (num c)
  have h1 := Int.emod_nonneg (num a * num b) (show num c ≠ 0 by omega)
  have h2 := Int.emod_lt_of_pos (num a * num b) (show 0 < num c by omega)
  have hq := Int.ediv_nonneg hp (num_bd c).1
  have hup : (num a * num b + num c - 1) / num c = num a * num b / num c + if num a * num b % num c = 0 then 0 else 1 := by
    split
    · rename_i hz
      have e : num a * num b + num c - 1 = (num c - 1) + num c * (num a * num b / num c) := by omega
      rw [e, Int.add_mul_ediv_left _ _ (by omega), Int.ediv_eq_zero_of_lt (by omega) (by omega)]; omega
    · rename_i hz
      have e : num a * num b + num c - 1 = (num a * num b % num c - 1) + num c * (num a * num b / num c + 1) := by
        rw [Int.mul_add, Int.mul_one]; omega
      rw [e, Int.add_mul_ediv_left _ _ (by omega), Int.ediv_eq_zero_of_lt (by omega) (by omega)]; omega
  rw [hup]
  by_cases hb : 9007199254740991 < num a * num b / num c
  · have er : mulr a b c = 0 := by unfold mulr; rw [if_pos (.inr hb)]
    unfold mulup
    rw [er, if_neg (by omega), mulq_num _ _ _ hc, num_hi _ hb]
    split <;> rw [num_hi _ (by omega)]
  · have er : mulr a b c = num a * num b % num c := by unfold mulr; rw [if_neg (by omega)]
    unfold mulup
    rw [er, mulq_num _ _ _ hc]
    by_cases hz : num a * num b % num c = 0
    · rw [if_neg (by omega), if_pos hz, Int.add_zero]
    · rw [if_pos (by omega), if_neg hz, add, num_num, num_id _ hq (by omega), show num 1 = 1 from rfl]

set_option maxRecDepth 100000 in
theorem mulup_mono (a b c d e : Int) (h : a ≤ b) (h' : c ≤ d) (he : 1 ≤ num e) : mulup a c e ≤ mulup b d e := by
  rw [mulup_num _ _ _ he, mulup_num _ _ _ he]
  refine num_mono _ _ (Int.ediv_le_ediv (by omega) ?_)
  have := Int.mul_le_mul (num_mono _ _ h) (num_mono _ _ h') (num_bd c).1 (num_bd b).1
  omega

set_option maxRecDepth 100000 in
/-! Times. -/
theorem tm_bd (t : Int) : tm t = -1 ∨ (0 ≤ tm t ∧ tm t ≤ 9007199254740991) := by
  unfold tm; split <;> omega
set_option maxRecDepth 100000 in
theorem tm_id (t : Int) (h : t = -1 ∨ (0 ≤ t ∧ t ≤ 9007199254740991)) : tm t = t := by
  unfold tm; split <;> omega
set_option maxRecDepth 100000 in
theorem ends_never (d : Int) : ends (-1) d = -1 := by simp [ends, tm]
set_option maxRecDepth 100000 in
theorem ends_num (t d : Int) (h : 0 ≤ t) (h' : t ≤ 9007199254740991) : ends t d = add t d ∧ t ≤ add t d ∧ add t d ≤ 9007199254740991 := by
  have e : tm t = t := tm_id t (.inr ⟨h, h'⟩)
  refine ⟨by unfold ends; rw [e, if_neg (by omega)], ?_, (num_bd _).2⟩
  have := le_add t d
  rw [num_id t h h'] at this; exact this
set_option maxRecDepth 100000 in
theorem earlier_le (x y : Int) (hx : x = -1 ∨ (0 ≤ x ∧ x ≤ 9007199254740991)) (hy : y = -1 ∨ (0 ≤ y ∧ y ≤ 9007199254740991)) (h : y = -1 ∨ (x ≠ -1 ∧ x ≤ y)) : earlier x y = x := by
  unfold earlier befB; rw [tm_id x hx, tm_id y hy]
  simp; omega

end Go.Proofs.Ytfacacieegfopaa.Sat
