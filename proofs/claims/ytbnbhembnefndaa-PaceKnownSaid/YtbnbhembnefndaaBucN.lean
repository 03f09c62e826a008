/-
  Plain mathematics of token buckets: the program's own steps, in numbers that are cut at the greatest one, lead to what filling makes of a bucket, and to when it has so many tokens.
-/
import Derived.Test.YtbnbhembnefndaaBucM
namespace Go.Proofs.Ytbnbhembnefndaa.BucM
set_option linter.unusedVariables false
set_option linter.unusedSimpArgs false

/-- What comes in, in whole tokens, and what is left: in two steps. -/
def moreN (x : Bk) (t p q : Int) : Int := if q ≤ Sat.mulr (t - x.t) p q + left x p q then Sat.mulq (t - x.t) p q + 1 else Sat.mulq (t - x.t) p q
def restN (x : Bk) (t p q : Int) : Int := if q ≤ Sat.mulr (t - x.t) p q + left x p q then Sat.mulr (t - x.t) p q + left x p q - q else Sat.mulr (t - x.t) p q + left x p q
set_option maxRecDepth 100000 in
/-- What MulRest answers here. -/
theorem rest_bd (x : Bk) {t p q : Int} (ht : x.t ≤ t) (h0 : 0 ≤ x.t) (ht1 : t ≤ 9007199254740991) (hm : may p q) :
    (0 ≤ Sat.mulq (t - x.t) p q ∧ Sat.mulq (t - x.t) p q ≤ 9007199254740991) ∧ (0 ≤ Sat.mulr (t - x.t) p q ∧ Sat.mulr (t - x.t) p q < q) := by
  obtain ⟨⟨p0, p1⟩, q0, q1⟩ := hm
  have e1 : Sat.num (t - x.t) = t - x.t := Sat.num_id _ (by omega) (by omega)
  have e2 : Sat.num p = p := Sat.num_id _ p0 (by omega)
  have e3 : Sat.num q = q := Sat.num_id _ (by omega) q1
  have hP := Int.mul_nonneg (show 0 ≤ t - x.t by omega) p0
  unfold Sat.mulq Sat.mulr
  rw [e1, e2, e3]
  generalize (t - x.t) * p = P at *
  have r0 := Int.emod_nonneg P (show q ≠ 0 by omega)
  have r1 := Int.emod_lt_of_pos P (show 0 < q by omega)
  have k0 := Int.ediv_nonneg hP (show 0 ≤ q by omega)
  split
  · omega
  · rename_i h; omega
set_option maxRecDepth 100000 in
theorem prog_fill {x : Bk} (h : Ok x) {t p q : Int} (ht : x.t ≤ t) (ht1 : t ≤ 9007199254740991) (hm : may p q) :
    fill x t p q = if x.b ≤ x.n + moreN x t p q then ⟨x.b, x.b, 0, t, p, q⟩ else ⟨x.b, x.n + moreN x t p q, restN x t p q, t, p, q⟩ := by
  obtain ⟨⟨p0, p1⟩, q0, q1⟩ := hm
  have b0 := h.b0; have b1 := h.b1; have n0 := h.n0; have n1 := h.n1; have t0 := h.t.1
  obtain ⟨l0, l1⟩ := left_bd h (p := p) (q := q) ⟨⟨p0, p1⟩, q0, q1⟩
  have e1 : Sat.num (t - x.t) = t - x.t := Sat.num_id _ (by omega) (by omega)
  have e2 : Sat.num p = p := Sat.num_id _ p0 (by omega)
  have e3 : Sat.num q = q := Sat.num_id _ (by omega) q1
  have hP := Int.mul_nonneg (show 0 ≤ t - x.t by omega) p0
  have hall : all x t p q = (t - x.t) * p + left x p q := rfl
  unfold moreN restN Sat.mulq Sat.mulr
  rw [e1, e2, e3]
  generalize (t - x.t) * p = P at *
  generalize hL : left x p q = L at *
  obtain ⟨d1, d2⟩ := div_two P L q (by omega)
  have r0 := Int.emod_nonneg P (show q ≠ 0 by omega)
  have r1 := Int.emod_lt_of_pos P (show 0 < q by omega)
  have k0 := Int.ediv_nonneg hP (show 0 ≤ q by omega)
  have c0 : 0 ≤ (P % q + L) / q := Int.ediv_nonneg (by omega) (by omega)
  have hc : (P % q + L) / q = (if q ≤ P % q + L then 1 else 0) ∧ (P % q + L) % q = (if q ≤ P % q + L then P % q + L - q else P % q + L) := by
    by_cases hb : q ≤ P % q + L
    · rw [if_pos hb, if_pos hb]
      have e : P % q + L = P % q + L - q + q * 1 := by omega
      refine ⟨?_, ?_⟩
      · rw [e, Int.add_mul_ediv_left _ _ (show q ≠ 0 by omega), Int.ediv_eq_zero_of_lt (by omega) (by omega)]; rfl
      · conv => lhs; rw [e, Int.add_mul_emod_self_left, Int.emod_eq_of_lt (by omega) (by omega)]
    · rw [if_neg hb, if_neg hb]
      exact ⟨Int.ediv_eq_zero_of_lt (by omega) (by omega), Int.emod_eq_of_lt (by omega) (by omega)⟩
  unfold fill
  rw [hall, d1, d2]
  by_cases hs : 9007199254740991 < P / q
  · have hs' : q = 0 ∨ 9007199254740991 < P / q := .inr hs
    rw [if_pos hs', if_pos hs', if_pos (by omega)]
    split
    · rw [if_pos (by omega)]
    · rw [if_pos (by omega)]
  · have hs' : ¬ (q = 0 ∨ 9007199254740991 < P / q) := by omega
    rw [if_neg hs', if_neg hs', hc.1, hc.2]
    by_cases hb : q ≤ P % q + L
    · simp only [if_pos hb]
    · simp only [if_neg hb, Int.add_zero]
set_option maxRecDepth 100000 in
theorem moreN_bd {x : Bk} (h : Ok x) {t p q : Int} (ht : x.t ≤ t) (ht1 : t ≤ 9007199254740991) (hm : may p q) : 0 ≤ moreN x t p q ∧ moreN x t p q ≤ 9007199254740992 := by
  have := rest_bd x ht h.t.1 ht1 hm
  unfold moreN
  split <;> omega
set_option maxRecDepth 100000 in
theorem restN_bd {x : Bk} (h : Ok x) {t p q : Int} (ht : x.t ≤ t) (ht1 : t ≤ 9007199254740991) (hm : may p q) : 0 ≤ restN x t p q ∧ restN x t p q < q := by
  have := rest_bd x ht h.t.1 ht1 hm
  have := left_bd h hm
  unfold restN
  split <;> omega

/-! How long it takes. -/
/-- The program's wait: for m more tokens at a rate, of which l Den-ths are there. -/
def wait (m l p q : Int) : Int := Sat.mulq (m - 1) q p + (Sat.mulr (m - 1) q p + (q - l) + p - 1) / p
set_option maxRecDepth 100000 in
theorem wait_bd {m l p q : Int} (m1 : 1 ≤ m) (m2 : m ≤ 1073741824) (hp : 0 < p) (hm : may p q) (l0 : 0 ≤ l) (l1 : l < q) :
    (0 ≤ Sat.mulq (m - 1) q p ∧ Sat.mulq (m - 1) q p ≤ 9007199254740991) ∧ (0 ≤ Sat.mulr (m - 1) q p ∧ Sat.mulr (m - 1) q p ≤ 8796093022208) ∧ (1 ≤ (Sat.mulr (m - 1) q p + (q - l) + p - 1) / p ∧ (Sat.mulr (m - 1) q p + (q - l) + p - 1) / p ≤ 9024791440785407) := by
  obtain ⟨⟨p0, p1⟩, q0, q1⟩ := hm
  have e1 : Sat.num (m - 1) = m - 1 := Sat.num_id _ (by omega) (by omega)
  have e2 : Sat.num p = p := Sat.num_id _ p0 (by omega)
  have e3 : Sat.num q = q := Sat.num_id _ (by omega) q1
  have hP := Int.mul_nonneg (show 0 ≤ m - 1 by omega) (show 0 ≤ q by omega)
  have A : (0 ≤ Sat.mulq (m - 1) q p ∧ Sat.mulq (m - 1) q p ≤ 9007199254740991) ∧ (0 ≤ Sat.mulr (m - 1) q p ∧ Sat.mulr (m - 1) q p ≤ 8796093022208) := by
    unfold Sat.mulq Sat.mulr
    rw [e1, e2, e3]
    generalize (m - 1) * q = P at *
    have r0 := Int.emod_nonneg P (show p ≠ 0 by omega)
    have r1 := Int.emod_lt_of_pos P (show 0 < p by omega)
    have k0 := Int.ediv_nonneg hP (show 0 ≤ p by omega)
    split
    · omega
    · rename_i h; omega
  refine ⟨A.1, A.2, ?_, ?_⟩
  · have h1 := Int.lt_mul_ediv_self_add (x := Sat.mulr (m - 1) q p + (q - l) + p - 1) hp
    have h2 := up_pos (a := Sat.mulr (m - 1) q p + (q - l)) (by omega) hp
    exact h2
  · have h1 : (Sat.mulr (m - 1) q p + (q - l) + p - 1) / p ≤ Sat.mulr (m - 1) q p + (q - l) + p - 1 := Int.ediv_le_self _ (by omega)
    omega
set_option maxRecDepth 100000 in
theorem wait_is {x : Bk} (h : Ok x) {w p q : Int} (hw : x.n < w) (hb : w ≤ x.b) (hp : 0 < p) (hm : may p q) :
    (whn x w p q = if x.t + wait (w - x.n) (left x p q) p q ≤ 9007199254740991 then x.t + wait (w - x.n) (left x p q) p q else -1) := by
  obtain ⟨⟨p0, p1⟩, q0, q1⟩ := hm
  have b1 := h.b1; have n0 := h.n0; have t0 := h.t.1
  obtain ⟨l0, l1⟩ := left_bd h (p := p) (q := q) ⟨⟨p0, p1⟩, q0, q1⟩
  obtain ⟨⟨a0, a1⟩, ⟨r0, r1⟩, c0, c1⟩ := wait_bd (m := w - x.n) (l := left x p q) (p := p) (q := q) (by omega) (by omega) hp ⟨⟨p0, p1⟩, q0, q1⟩ l0 l1
  have e0 : whn x w p q = if x.t + up (need x w p q) p ≤ 9007199254740991 then x.t + up (need x w p q) p else -1 := by
    unfold whn
    rw [if_neg (by simp [hb, show may p q from ⟨⟨p0, p1⟩, q0, q1⟩]; omega), if_neg (by omega), if_neg (by omega)]
  have e1 : Sat.num (w - x.n - 1) = w - x.n - 1 := Sat.num_id _ (by omega) (by omega)
  have e2 : Sat.num p = p := Sat.num_id _ p0 (by omega)
  have e3 : Sat.num q = q := Sat.num_id _ (by omega) q1
  have hP := Int.mul_nonneg (show 0 ≤ w - x.n - 1 by omega) (show 0 ≤ q by omega)
  have hn : need x w p q = (w - x.n - 1) * q + (q - left x p q) := by
    unfold need
    rw [show (w - x.n) * q = (w - x.n - 1 + 1) * q by rw [show w - x.n - 1 + 1 = w - x.n by omega], Int.add_mul]
    omega
  rw [e0, hn]
  generalize left x p q = L at *
  have hu : up ((w - x.n - 1) * q + (q - L)) p = (w - x.n - 1) * q / p + ((w - x.n - 1) * q % p + (q - L) + p - 1) / p := by
    unfold up
    have := (div_two ((w - x.n - 1) * q) ((q - L) + p - 1) p hp).1
    rw [show (w - x.n - 1) * q + (q - L) + p - 1 = (w - x.n - 1) * q + ((q - L) + p - 1) by omega, this, show (w - x.n - 1) * q % p + (q - L + p - 1) = (w - x.n - 1) * q % p + (q - L) + p - 1 by omega]
  rw [hu]
  unfold wait
  revert a0 a1 r0 r1 c0 c1
  unfold Sat.mulq Sat.mulr
  rw [e1, e2, e3]
  generalize (w - x.n - 1) * q = P at *
  have k0 := Int.ediv_nonneg hP (show 0 ≤ p by omega)
  have m0 := Int.emod_nonneg P (show p ≠ 0 by omega)
  intro a0 a1 r0 r1 c0 c1
  by_cases hs : 9007199254740991 < P / p
  · have hs' : p = 0 ∨ 9007199254740991 < P / p := .inr hs
    rw [if_pos hs', if_pos hs'] at *
    have := up_pos (a := P % p + (q - L)) (by omega) hp
    unfold up at this
    rw [if_neg (by omega), if_neg (by omega)]
  · have hs' : ¬ (p = 0 ∨ 9007199254740991 < P / p) := by omega
    rw [if_neg hs', if_neg hs'] at *
end Go.Proofs.Ytbnbhembnefndaa.BucM
