/-
  Plain mathematics of token buckets: which rates may be, what filling makes of a bucket, when it has so many tokens. Nothing here speaks of a program.
-/
import Derived.Test.YtbnbhembnefndaaSatM
namespace Go.Proofs.Ytbnbhembnefndaa.BucM
set_option linter.unusedVariables false
set_option linter.unusedSimpArgs false

/-- Burst, tokens, rest, time, rate (p in q). -/
structure Bk where
  b : Int
  n : Int
  l : Int
  t : Int
  p : Int
  q : Int
deriving DecidableEq, Inhabited
def top : Int := 9007199254740991
def tm (t : Int) : Prop := 0 ≤ t ∧ t ≤ 9007199254740991
instance (t : Int) : Decidable (tm t) := by unfold tm; infer_instance
def may (p q : Int) : Prop := (0 ≤ p ∧ p ≤ 8796093022208) ∧ (1 ≤ q ∧ q ≤ 9007199254740991)
instance (p q : Int) : Decidable (may p q) := by unfold may; infer_instance
/-- A bucket as calls leave it. -/
structure Ok (x : Bk) : Prop where
  b0 : 1 ≤ x.b
  b1 : x.b ≤ 1073741824
  n0 : 0 ≤ x.n
  n1 : x.n ≤ x.b
  l0 : 0 ≤ x.l
  l1 : x.l = 0 ∨ x.l < x.q
  q1 : x.q ≤ 9007199254740991
  t : tm x.t
/-- What New answers. -/
def newE (b t : Int) : Int := if (1 ≤ b ∧ b ≤ 1073741824) ∧ tm t then 0 else 2
def made (b t : Int) : Bk := ⟨b, b, 0, t, 0, 0⟩
set_option maxRecDepth 100000 in
theorem made_ok {b t : Int} (h : newE b t = 0) : Ok (made b t) := by
  unfold newE at h
  split at h
  · rename_i h'
    exact ⟨h'.1.1, h'.1.2, by show 0 ≤ b; omega, Int.le_refl _, Int.le_refl _, .inl rfl, by show (0 : Int) ≤ _; decide, h'.2⟩
  · cases h
/-- The rest that counts at a rate. -/
def left (x : Bk) (p q : Int) : Int := if x.p = p ∧ x.q = q then x.l else 0
set_option maxRecDepth 100000 in
theorem left_bd {x : Bk} (h : Ok x) {p q : Int} (hm : may p q) : 0 ≤ left x p q ∧ left x p q < q := by
  have := hm.2.1
  unfold left
  split
  · rename_i e
    obtain ⟨e1, e2⟩ := e
    refine ⟨h.l0, ?_⟩
    rcases h.l1 with h1 | h1
    · omega
    · omega
  · omega
/-- How many Den-ths come in. -/
def all (x : Bk) (t p q : Int) : Int := (t - x.t) * p + left x p q
def fill (x : Bk) (t p q : Int) : Bk := if x.b ≤ x.n + all x t p q / q then ⟨x.b, x.b, 0, t, p, q⟩ else ⟨x.b, x.n + all x t p q / q, all x t p q % q, t, p, q⟩
set_option maxRecDepth 100000 in
theorem all_nn {x : Bk} (h : Ok x) {t p q : Int} (ht : x.t ≤ t) (hm : may p q) : 0 ≤ all x t p q := by
  have h1 := Int.mul_nonneg (show 0 ≤ t - x.t by omega) hm.1.1
  have := (left_bd h hm).1
  unfold all
  omega
set_option maxRecDepth 100000 in
theorem fill_full {x : Bk} {t p q : Int} (h : x.b ≤ x.n + all x t p q / q) : fill x t p q = ⟨x.b, x.b, 0, t, p, q⟩ := if_pos h
set_option maxRecDepth 100000 in
theorem fill_less {x : Bk} {t p q : Int} (h : ¬ x.b ≤ x.n + all x t p q / q) : fill x t p q = ⟨x.b, x.n + all x t p q / q, all x t p q % q, t, p, q⟩ := if_neg h
set_option maxRecDepth 100000 in
theorem fill_b (x : Bk) (t p q : Int) : (fill x t p q).b = x.b := by unfold fill; split <;> rfl
set_option maxRecDepth 100000 in
theorem fill_t (x : Bk) (t p q : Int) : (fill x t p q).t = t := by unfold fill; split <;> rfl
set_option maxRecDepth 100000 in
theorem fill_p (x : Bk) (t p q : Int) : (fill x t p q).p = p := by unfold fill; split <;> rfl
set_option maxRecDepth 100000 in
theorem fill_q (x : Bk) (t p q : Int) : (fill x t p q).q = q := by unfold fill; split <;> rfl
set_option maxRecDepth 100000 in
theorem fill_n (x : Bk) (t p q : Int) : (fill x t p q).n = min x.b (x.n + all x t p q / q) := by
  unfold fill
  split
  · rename_i h; show x.b = _; omega
  · rename_i h; show x.n + all x t p q / q = _; omega
set_option maxRecDepth 100000 in
theorem fill_ok {x : Bk} (h : Ok x) {t p q : Int} (ht : x.t ≤ t) (ht1 : t ≤ 9007199254740991) (hm : may p q) : Ok (fill x t p q) := by
  have hq := hm.2.1
  have h0 := Int.ediv_nonneg (all_nn h ht hm) (show 0 ≤ q by omega)
  have h1 := Int.emod_nonneg (all x t p q) (show q ≠ 0 by omega)
  have h2 := Int.emod_lt_of_pos (all x t p q) (show 0 < q by omega)
  have b0 := h.b0; have b1 := h.b1; have n0 := h.n0; have n1 := h.n1; have t0 := h.t.1
  unfold fill
  split
  · exact ⟨b0, b1, by show 0 ≤ x.b; omega, Int.le_refl _, Int.le_refl _, .inl rfl, hm.2.2, ⟨by show 0 ≤ t; omega, ht1⟩⟩
  · rename_i hb
    exact ⟨b0, b1, by show 0 ≤ x.n + _; omega, by show x.n + _ ≤ x.b; omega, h1, .inr h2, hm.2.2, ⟨by show 0 ≤ t; omega, ht1⟩⟩

set_option maxRecDepth 100000 in
/-! The document's own steps, in numbers that are cut at the greatest one, lead to the same. -/
/-- What is divided in one, and in two. -/
theorem div_two (a l q : Int) (hq : 0 < q) : (a + l) / q = a / q + (a % q + l) / q ∧ (a + l) % q = (a % q + l) % q := by
  have h := Int.mul_ediv_add_emod a q
  have e : a + l = a % q + l + q * (a / q) := by omega
  constructor
  · rw [e, Int.add_mul_ediv_left _ _ (show q ≠ 0 by omega)]
    omega
  · rw [e, Int.add_mul_emod_self_left]
set_option maxRecDepth 100000 in
/-- The sums as the document makes them: q0, r0 of MulRest, then Add of the carried token, then Add of the tokens. -/
theorem sat_fill {x : Bk} (h : Ok x) {t p q : Int} (ht : x.t ≤ t) (ht1 : t ≤ 9007199254740991) (hm : may p q) :
    (fill x t p q) = (if x.b ≤ Sat.add x.n (Sat.add (Sat.mulq (t - x.t) p q) ((Sat.mulr (t - x.t) p q + left x p q) / q)) then ⟨x.b, x.b, 0, t, p, q⟩ else ⟨x.b, Sat.add x.n (Sat.add (Sat.mulq (t - x.t) p q) ((Sat.mulr (t - x.t) p q + left x p q) / q)), (Sat.mulr (t - x.t) p q + left x p q) % q, t, p, q⟩) := by
  obtain ⟨⟨p0, p1⟩, q0, q1⟩ := hm
  have b0 := h.b0; have b1 := h.b1; have n0 := h.n0; have n1 := h.n1; have t0 := h.t.1
  obtain ⟨l0, l1⟩ := left_bd h (p := p) (q := q) ⟨⟨p0, p1⟩, q0, q1⟩
  have e1 : Sat.num (t - x.t) = t - x.t := Sat.num_id _ (by omega) (by omega)
  have e2 : Sat.num p = p := Sat.num_id _ p0 (by omega)
  have e3 : Sat.num q = q := Sat.num_id _ (by omega) q1
  have hP := Int.mul_nonneg (show 0 ≤ t - x.t by omega) p0
  have hall : all x t p q = (t - x.t) * p + left x p q := rfl
  unfold Sat.mulq Sat.mulr
  rw [e1, e2, e3]
  generalize (t - x.t) * p = P at *
  generalize hL : left x p q = L at *
  obtain ⟨d1, d2⟩ := div_two P L q (by omega)
  have r0 := Int.emod_nonneg P (show q ≠ 0 by omega)
  have r1 := Int.emod_lt_of_pos P (show 0 < q by omega)
  have c0 : 0 ≤ (P % q + L) / q := Int.ediv_nonneg (by omega) (by omega)
  have c1 : (P % q + L) / q ≤ 1 := by
    have : (P % q + L) / q < 2 := Int.ediv_lt_of_lt_mul (by omega) (by omega)
    omega
  have k0 := Int.ediv_nonneg hP (show 0 ≤ q by omega)
  unfold fill
  rw [hall, d1, d2]
  by_cases hs : 9007199254740991 < P / q
  · have hs' : q = 0 ∨ 9007199254740991 < P / q := .inr hs
    rw [if_pos hs', if_pos hs', if_pos (by omega)]
    have ea : Sat.add 9007199254740991 ((0 + L) / q) = 9007199254740991 := by
      have := Int.ediv_nonneg (show 0 ≤ 0 + L by omega) (show 0 ≤ q by omega)
      have h1 := Sat.le_add 9007199254740991 ((0 + L) / q)
      have h2 := Sat.add_bd 9007199254740991 ((0 + L) / q)
      have h3 : Sat.num 9007199254740991 = 9007199254740991 := by decide
      omega
    have eb : x.b ≤ Sat.add x.n 9007199254740991 := by
      have h1 := Sat.le_add 9007199254740991 x.n
      have h3 : Sat.num 9007199254740991 = 9007199254740991 := by decide
      rw [Sat.add_comm] at h1
      omega
    rw [ea, if_pos eb]
  · have hs' : ¬ (q = 0 ∨ 9007199254740991 < P / q) := by omega
    rw [if_neg hs', if_neg hs']
    generalize P / q = k at *
    generalize (P % q + L) / q = c at *
    generalize (P % q + L) % q = r at *
    have ec : Sat.num c = c := Sat.num_id _ (by omega) (by omega)
    have ek : Sat.num k = k := Sat.num_id _ k0 (by omega)
    have en : Sat.num x.n = x.n := Sat.num_id _ n0 (by omega)
    unfold Sat.add
    rw [ec, ek, en, Sat.num_num]
    by_cases h1 : k + c ≤ 9007199254740991
    · rw [Sat.num_id (k + c) (by omega) h1]
      by_cases h2 : x.n + (k + c) ≤ 9007199254740991
      · rw [Sat.num_id _ (by omega) h2]
      · rw [Sat.num_hi _ (by omega), if_pos (by omega), if_pos (by omega)]
    · rw [Sat.num_hi (k + c) (by omega)]
      rw [if_pos (by omega)]
      have : x.b ≤ Sat.num (x.n + 9007199254740991) := by
        have h3 := Sat.num_mono 9007199254740991 (x.n + 9007199254740991) (by omega)
        have h4 : Sat.num 9007199254740991 = 9007199254740991 := by decide
        omega
      rw [if_pos this]

set_option maxRecDepth 100000 in
/-! P13.4: filling twice at one rate is filling once. -/
theorem left_fill (x : Bk) (t p q : Int) : left (fill x t p q) p q = (fill x t p q).l := by
  unfold left
  rw [fill_p, fill_q, if_pos ⟨rfl, rfl⟩]
set_option maxRecDepth 100000 in
theorem all_of (b n l t s p q : Int) : all ⟨b, n, l, t, p, q⟩ s p q = (s - t) * p + l := by
  unfold all left
  rw [if_pos ⟨rfl, rfl⟩]
set_option maxRecDepth 100000 in
theorem fill_fill {x : Bk} (h : Ok x) {t s p q : Int} (ht : x.t ≤ t) (hs : t ≤ s) (hm : may p q) : fill (fill x t p q) s p q = fill x s p q := by
  have hq := hm.2.1
  have hp := hm.1.1
  have hA := all_nn h ht hm
  have h1 : all x s p q = all x t p q + (s - t) * p := by
    unfold all
    rw [show s - x.t = (t - x.t) + (s - t) by omega, Int.add_mul]
    omega
  have hD := Int.mul_nonneg (show 0 ≤ s - t by omega) hp
  by_cases hf : x.b ≤ x.n + all x t p q / q
  · have h2 : x.b ≤ x.n + all x s p q / q := by
      have := Int.ediv_le_ediv (show 0 < q by omega) (show all x t p q ≤ all x s p q by omega)
      omega
    have h3 : (⟨x.b, x.b, 0, t, p, q⟩ : Bk).b ≤ (⟨x.b, x.b, 0, t, p, q⟩ : Bk).n + all ⟨x.b, x.b, 0, t, p, q⟩ s p q / q := by
      have : 0 ≤ all ⟨x.b, x.b, 0, t, p, q⟩ s p q := by
        unfold all left
        rw [if_pos ⟨rfl, rfl⟩]
        show 0 ≤ (s - t) * p + 0
        omega
      have := Int.ediv_nonneg this (show 0 ≤ q by omega)
      show x.b ≤ x.b + _
      omega
    rw [fill_full hf, fill_full h2, fill_full h3]
  · rw [fill_less hf]
    have e : all ⟨x.b, x.n + all x t p q / q, all x t p q % q, t, p, q⟩ s p q = (s - t) * p + all x t p q % q := all_of _ _ _ _ _ _ _
    obtain ⟨d1, d2⟩ := div_two (all x t p q) ((s - t) * p) q (by omega)
    unfold fill
    rw [e, h1, d1, d2]
    show (if x.b ≤ x.n + all x t p q / q + ((s - t) * p + all x t p q % q) / q then _ else _) = _
    rw [Int.add_comm ((s - t) * p) (all x t p q % q), Int.add_assoc]

set_option maxRecDepth 100000 in
/-! P13.6: when there are so many tokens. -/
theorem has_iff {x : Bk} {w t p q : Int} (hw : w ≤ x.b) (hq : 1 ≤ q) : w ≤ (fill x t p q).n ↔ (w - x.n) * q ≤ all x t p q := by
  rw [fill_n]
  have h := Int.le_ediv_iff_mul_le (a := w - x.n) (b := all x t p q) (c := q) (by omega)
  constructor
  · intro h1
    exact h.1 (by omega)
  · intro h1
    have := h.2 h1
    omega
/-- The least number that is at least a / p. -/
def up (a p : Int) : Int := (a + p - 1) / p
set_option maxRecDepth 100000 in
theorem up_le {a p d : Int} (hp : 0 < p) : up a p ≤ d ↔ a ≤ d * p := by
  unfold up
  constructor
  · intro h
    have h1 := Int.lt_mul_ediv_self_add (x := a + p - 1) hp
    have h2 := Int.mul_le_mul_of_nonneg_left h (show 0 ≤ p by omega)
    rw [Int.mul_comm p d] at h2
    omega
  · intro h
    have h1 : (a + p - 1) / p < d + 1 := Int.ediv_lt_of_lt_mul hp (by rw [Int.add_mul]; omega)
    omega
def need (x : Bk) (w p q : Int) : Int := (w - x.n) * q - left x p q
/-- When it has w tokens, or never. -/
def whn (x : Bk) (w p q : Int) : Int :=
  if ¬ ((0 ≤ w ∧ w ≤ x.b) ∧ may p q) then -1 else if w ≤ x.n then x.t else if p = 0 then -1 else if x.t + up (need x w p q) p ≤ 9007199254740991 then x.t + up (need x w p q) p else -1
set_option maxRecDepth 100000 in
theorem has_need {x : Bk} {w t p q : Int} (hw : w ≤ x.b) (hq : 1 ≤ q) : w ≤ (fill x t p q).n ↔ need x w p q ≤ (t - x.t) * p := by
  rw [has_iff hw hq]
  unfold need all
  omega
set_option maxRecDepth 100000 in
theorem has_up {x : Bk} {w t p q : Int} (hw : w ≤ x.b) (hq : 1 ≤ q) (hp : 0 < p) : w ≤ (fill x t p q).n ↔ x.t + up (need x w p q) p ≤ t := by
  rw [has_need hw hq, ← up_le (d := t - x.t) hp]
  omega
set_option maxRecDepth 100000 in
theorem need_pos {x : Bk} (h : Ok x) {w p q : Int} (hw : x.n < w) (hm : may p q) : 1 ≤ need x w p q := by
  have h1 := (left_bd h hm).2
  have h2 := Int.mul_le_mul_of_nonneg_right (show 1 ≤ w - x.n by omega) (show 0 ≤ q by have := hm.2.1; omega)
  unfold need
  omega
set_option maxRecDepth 100000 in
theorem up_pos {a p : Int} (ha : 1 ≤ a) (hp : 0 < p) : 1 ≤ up a p := by
  rcases Int.lt_or_le (up a p) 1 with h | h
  · have h1 := (up_le (a := a) (d := 0) hp).1 (by omega)
    omega
  · exact h
set_option maxRecDepth 100000 in
/-- It is never before, and it is then. -/
theorem whn_never {x : Bk} (h : Ok x) {w p q : Int} (hw0 : 0 ≤ w) (hw : w ≤ x.b) (hm : may p q) (hn : whn x w p q = -1) {t : Int} (ht : x.t ≤ t) (ht1 : t ≤ 9007199254740991) : ¬ w ≤ (fill x t p q).n := by
  have t0 := h.t.1
  unfold whn at hn
  rw [if_neg (by simp [hw0, hw, hm])] at hn
  by_cases h1 : w ≤ x.n
  · rw [if_pos h1] at hn; omega
  · rw [if_neg h1] at hn
    have hp0 := need_pos h (w := w) (by omega) hm
    by_cases h2 : p = 0
    · rw [has_need hw hm.2.1, h2, Int.mul_zero]
      rw [h2] at hp0
      omega
    · rw [if_neg h2] at hn
      have hp : 0 < p := by have := hm.1.1; omega
      rw [has_up hw hm.2.1 hp]
      split at hn
      · rename_i h3
        have := up_pos hp0 hp
        omega
      · rename_i h3
        omega
set_option maxRecDepth 100000 in
theorem whn_is {x : Bk} (h : Ok x) {w p q : Int} (hn : whn x w p q ≠ -1) : x.t ≤ whn x w p q ∧ whn x w p q ≤ 9007199254740991 ∧ (0 ≤ w ∧ w ≤ x.b) ∧ may p q ∧ (∀ t, x.t ≤ t → (w ≤ (fill x t p q).n ↔ whn x w p q ≤ t)) := by
  have t1 := h.t.2
  by_cases ha : (0 ≤ w ∧ w ≤ x.b) ∧ may p q
  · obtain ⟨hw, hm⟩ := ha
    have hq := hm.2.1
    have e0 : whn x w p q = if w ≤ x.n then x.t else if p = 0 then -1 else if x.t + up (need x w p q) p ≤ 9007199254740991 then x.t + up (need x w p q) p else -1 := by
      unfold whn; rw [if_neg (by simp [hw, hm])]
    rw [e0] at hn ⊢
    by_cases h1 : w ≤ x.n
    · rw [if_pos h1] at hn ⊢
      refine ⟨Int.le_refl _, t1, hw, hm, fun t ht => ⟨fun _ => ht, fun _ => ?_⟩⟩
      rw [fill_n]
      have := Int.ediv_nonneg (all_nn h ht hm) (show 0 ≤ q by omega)
      omega
    · rw [if_neg h1] at hn ⊢
      by_cases h2 : p = 0
      · rw [if_pos h2] at hn; exact absurd rfl hn
      · rw [if_neg h2] at hn ⊢
        have hp : 0 < p := by have := hm.1.1; omega
        by_cases h3 : x.t + up (need x w p q) p ≤ 9007199254740991
        · rw [if_pos h3] at hn ⊢
          have := up_pos (need_pos h (w := w) (by omega) hm) hp
          exact ⟨by omega, h3, hw, hm, fun t _ => has_up hw.2 hq hp⟩
        · rw [if_neg h3] at hn; exact absurd rfl hn
  · exact absurd (by unfold whn; rw [if_pos ha]) hn
set_option maxRecDepth 100000 in
theorem whn_bad {x : Bk} {w p q : Int} (h : ¬ ((0 ≤ w ∧ w ≤ x.b) ∧ may p q)) : whn x w p q = -1 := if_pos h

/-! What is taken. -/
def takeE (x : Bk) (k : Int) : Int := if k < 0 then 2 else if x.n < k then 5 else 0
def take (x : Bk) (k : Int) : Bk := if takeE x k = 0 then { x with n := x.n - k } else x
set_option maxRecDepth 100000 in
theorem takeE_of {x : Bk} {k : Int} (h : takeE x k = 0) : 0 ≤ k ∧ k ≤ x.n := by
  unfold takeE at h
  by_cases h1 : k < 0
  · rw [if_pos h1] at h; cases h
  · rw [if_neg h1] at h
    by_cases h2 : x.n < k
    · rw [if_pos h2] at h; cases h
    · omega
set_option maxRecDepth 100000 in
theorem takeE_is {x : Bk} {k : Int} (h0 : 0 ≤ k) (h : k ≤ x.n) : takeE x k = 0 := by
  unfold takeE; rw [if_neg (by omega), if_neg (by omega)]
set_option maxRecDepth 100000 in
theorem take_is {x : Bk} {k : Int} (h : takeE x k = 0) : take x k = { x with n := x.n - k } := if_pos h
set_option maxRecDepth 100000 in
theorem take_no {x : Bk} {k : Int} (h : takeE x k ≠ 0) : take x k = x := if_neg h
set_option maxRecDepth 100000 in
theorem take_ok {x : Bk} (h : Ok x) (k : Int) : Ok (take x k) := by
  have n0 := h.n0; have n1 := h.n1
  by_cases e : takeE x k = 0
  · rw [take_is e]
    obtain ⟨h1, h2⟩ := takeE_of e
    exact ⟨h.b0, h.b1, by show 0 ≤ x.n - k; omega, by show x.n - k ≤ x.b; omega, h.l0, h.l1, h.q1, h.t⟩
  · rw [take_no e]; exact h
def fillE (x : Bk) (t p q : Int) : Int := if ¬ (tm t ∧ may p q) then 2 else if t < x.t then 210 else 0
def fillR (x : Bk) (t p q : Int) : Bk := if fillE x t p q = 0 then fill x t p q else x
set_option maxRecDepth 100000 in
theorem fillE_of {x : Bk} {t p q : Int} (h : fillE x t p q = 0) : tm t ∧ may p q ∧ x.t ≤ t := by
  unfold fillE at h
  split at h
  · cases h
  · rename_i h1
    have h1 := Decidable.of_not_not h1
    split at h
    · cases h
    · exact ⟨h1.1, h1.2, by omega⟩
set_option maxRecDepth 100000 in
theorem fillE_is {x : Bk} {t p q : Int} (ht : tm t) (hm : may p q) (h : x.t ≤ t) : fillE x t p q = 0 := by
  unfold fillE
  rw [if_neg (by simp [ht, hm]), if_neg (by omega)]
set_option maxRecDepth 100000 in
theorem fillR_ok {x : Bk} (h : Ok x) (t p q : Int) : Ok (fillR x t p q) := by
  unfold fillR
  split
  · rename_i e
    obtain ⟨h1, h2, h3⟩ := fillE_of e
    exact fill_ok h h3 h1.2 h2
  · exact h
set_option maxRecDepth 100000 in
/-! P13.5: what comes in. -/
theorem fill_in {x : Bk} (h : Ok x) {t p q : Int} (ht : x.t ≤ t) (hm : may p q) : (fill x t p q).n ≤ x.n + ((t - x.t) * p + q - 1) / q + 1 := by
  rw [fill_n]
  have hq := hm.2.1
  have hl := left_bd h hm
  have h1 : all x t p q / q ≤ ((t - x.t) * p + q - 1) / q + 1 := by
    have e : ((t - x.t) * p + q - 1) / q + 1 = ((t - x.t) * p + q - 1 + q) / q := by
      rw [show (t - x.t) * p + q - 1 + q = (t - x.t) * p + q - 1 + 1 * q by omega, Int.add_mul_ediv_right _ _ (show q ≠ 0 by omega)]
    rw [e]
    refine Int.ediv_le_ediv (by omega) ?_
    unfold all
    omega
  omega
/-- What was taken since a filling (S), and what may have come in since (M): the walk's invariant of BucketBound. -/
structure Since (x : Bk) (S M : Int) : Prop where
  le : S + x.n ≤ x.b + M
set_option maxRecDepth 100000 in
theorem Since.new {x : Bk} (h : Ok x) (k : Int) : Since { x with n := x.n - k } k 0 := ⟨by show k + (x.n - k) ≤ x.b + 0; have := h.n1; omega⟩
set_option maxRecDepth 100000 in
theorem Since.fill {x : Bk} (h : Ok x) {S M t p q : Int} (hs : Since x S M) (ht : x.t ≤ t) (hm : may p q) : Since (fill x t p q) S (M + (((t - x.t) * p + q - 1) / q + 1)) := by
  have h1 := fill_in h ht hm
  have h2 := hs.le
  exact ⟨by rw [fill_b]; omega⟩
set_option maxRecDepth 100000 in
theorem Since.take {x : Bk} {S M : Int} (hs : Since x S M) (k : Int) : Since { x with n := x.n - k } (S + k) M := ⟨by have := hs.le; show S + k + (x.n - k) ≤ x.b + M; omega⟩
set_option maxRecDepth 100000 in
theorem Since.bound {x : Bk} (h : Ok x) {S M : Int} (hs : Since x S M) : S ≤ x.b + M := by have := hs.le; have := h.n0; omega
set_option maxRecDepth 100000 in
/-! The chapter's examples. -/
theorem ex : fillR ⟨1000, 0, 0, 0, 0, 0⟩ 10 3 7 = ⟨1000, 4, 2, 10, 3, 7⟩ ∧ whn ⟨1000, 4, 2, 10, 3, 7⟩ 5 3 7 = 12 ∧ whn ⟨1000, 4, 2, 10, 3, 7⟩ 4 3 7 = 10 ∧ fillR ⟨1000, 4, 2, 10, 3, 7⟩ 12 3 7 = ⟨1000, 5, 1, 12, 3, 7⟩ ∧ fillE ⟨1000, 5, 1, 12, 3, 7⟩ 11 3 7 = 210 ∧ fillR ⟨1000, 5, 1, 12, 3, 7⟩ 3000 3 7 = ⟨1000, 1000, 0, 3000, 3, 7⟩ ∧ whn ⟨1000, 1000, 0, 3000, 3, 7⟩ 1001 3 7 = -1 ∧ whn ⟨1000, 1000, 0, 3000, 3, 7⟩ 1000 3 7 = 3000 := by
  refine ⟨by decide, by decide, by decide, by decide, by decide, by decide, by decide, by decide⟩

end Go.Proofs.Ytbnbhembnefndaa.BucM
