/-
  The walk of the law SatAnswers of layer 1, with the document's own division, bit by bit.
-/
import Derived.Test.YtfacacieegfopaaLSatA
namespace Go.Proofs.Ytfacacieegfopaa.Law
open Go.RowKit Sat
set_option linter.unusedSimpArgs false
set_option linter.unusedVariables false

/-- What the division, bit by bit, keeps: k bits of A are still to come. -/
structure DivBits (A B C : Int) (k : Nat) (t q l : Int) : Prop where
  ht : t = 2 ^ k / 2
  hk : k ≤ 53
  eq : q * C + l = A / 2 ^ k * B
  l0 : 0 ≤ l
  l1 : l < C
  q0 : 0 ≤ q
  q1 : q ≤ 9007199254740991

set_option maxRecDepth 100000 in
theorem half_step (A : Int) (k : Nat) : A / 2 ^ k = 2 * (A / 2 ^ (k + 1)) + A / 2 ^ k % 2 := by
  have e : A / 2 ^ (k + 1) = A / 2 ^ k / 2 := by
    rw [Int.pow_succ, Int.ediv_ediv_of_nonneg (Int.le_of_lt (Int.pow_pos (by omega)))]
  rw [e]; omega

set_option maxRecDepth 100000 in
theorem pow_half (k : Nat) : (2 : Int) ^ (k + 1) / 2 = 2 ^ k := by
  rw [Int.pow_succ]; exact Int.mul_ediv_cancel _ (by omega)

set_option maxRecDepth 100000 in
theorem DivBits.pos {A B C : Int} {k : Nat} {t q l : Int} (h : DivBits A B C (k + 1) t q l) : t = 2 ^ k ∧ 1 ≤ t ∧ t ≤ 4503599627370496 := by
  have e : t = 2 ^ k := by rw [h.ht, pow_half]
  have h1 : (1 : Int) ≤ 2 ^ k := Int.pow_pos (by omega)
  have h2 : (2 : Int) ^ k ≤ 2 ^ 52 := by
    have := h.hk
    have h3 : (2 : Nat) ^ k ≤ 2 ^ 52 := Nat.pow_le_pow_right (by omega) (by omega)
    exact_mod_cast h3
  have h4 : (2 : Int) ^ 52 = 4503599627370496 := rfl
  exact ⟨e, by omega, by omega⟩

set_option maxRecDepth 100000 in
theorem DivBits.step {A B C : Int} {k : Nat} {t q l u d : Int} (h : DivBits A B C (k + 1) t q l) (hC : 1 ≤ C) (hB : 0 ≤ B) (hd : A / t % 2 = d) (hd0 : 0 ≤ d) (hu : u = 2 * l + d * B) :
    0 ≤ u / C ∧ u / C ≤ u ∧ 0 ≤ u % C ∧ u % C < C ∧ (2 * q + u / C) * C + u % C = A / 2 ^ k * B := by
  have hp := h.pos
  have hu0 : 0 ≤ u := by
    have := Int.mul_nonneg hd0 hB
    have := h.l0; omega
  have h1 := Int.ediv_nonneg hu0 (show 0 ≤ C by omega)
  have h2 := Int.ediv_le_self C hu0
  have h3 := Int.emod_nonneg u (show C ≠ 0 by omega)
  have h4 := Int.emod_lt_of_pos u (show 0 < C by omega)
  refine ⟨h1, h2, h3, h4, ?_⟩
  have h5 := Int.mul_ediv_add_emod u C
  rw [half_step A k, ← hp.1, hd, Int.add_mul, Int.add_mul, Int.mul_assoc, Int.mul_assoc]
  have h6 := h.eq
  have h7 : u / C * C = C * (u / C) := Int.mul_comm _ _
  rw [hp.1] at *
  omega

set_option maxRecDepth 100000 in
theorem DivBits.next {A B C : Int} {k : Nat} {t q l u d : Int} (h : DivBits A B C (k + 1) t q l) (hC : 1 ≤ C) (hB : 0 ≤ B) (hd : A / t % 2 = d) (hd0 : 0 ≤ d) (hu : u = 2 * l + d * B) (hq : 2 * q + u / C ≤ 9007199254740991) :
    DivBits A B C k (t / 2) (2 * q + u / C) (u % C) := by
  obtain ⟨h1, h2, h3, h4, h5⟩ := h.step hC hB hd hd0 hu
  have := h.hk; have := h.q0
  exact ⟨by rw [h.pos.1], by omega, h5, h3, h4, by omega, hq⟩

set_option maxRecDepth 100000 in
/-- Once the quotient is too great it stays so. -/
theorem DivBits.over {A B C : Int} {k : Nat} {t q l u d : Int} (h : DivBits A B C (k + 1) t q l) (hC : 1 ≤ C) (hB : 0 ≤ B) (hA : 0 ≤ A) (hd : A / t % 2 = d) (hd0 : 0 ≤ d) (hu : u = 2 * l + d * B) (hq : 9007199254740991 < 2 * q + u / C) :
    9007199254740991 < A * B / C := by
  obtain ⟨h1, h2, h3, h4, h5⟩ := h.step hC hB hd hd0 hu
  have h6 : A / 2 ^ k ≤ A := Int.ediv_le_self _ hA
  have h7 := Int.mul_le_mul_of_nonneg_right h6 hB
  have : 2 * q + u / C ≤ A * B / C := Int.le_ediv_of_mul_le (by omega) (by omega)
  omega

set_option maxRecDepth 100000 in
theorem DivBits.done {A B C t q l : Int} (h : DivBits A B C 0 t q l) (hC : 1 ≤ C) : q = A * B / C ∧ l = A * B % C := by
  have h1 := h.eq
  rw [Int.pow_zero, Int.ediv_one] at h1
  have hl0 := h.l0; have hl1 := h.l1
  have e : A * B = l + C * q := by rw [Int.mul_comm C]; omega
  rw [e, Int.add_mul_ediv_left _ _ (by omega), Int.add_mul_emod_self_left, Int.ediv_eq_zero_of_lt hl0 hl1, Int.emod_eq_of_lt hl0 hl1]
  omega

set_option maxRecDepth 100000 in
theorem DivBits.start (A B C : Int) (hA : 0 ≤ A) (hA' : A ≤ 9007199254740991) (hC : 1 ≤ C) : DivBits A B C 53 4503599627370496 0 0 :=
  ⟨rfl, by omega, by rw [Int.ediv_eq_zero_of_lt hA (by have : (2 : Int) ^ 53 = 9007199254740992 := rfl; omega)]; simp, by omega, by omega, by omega, by omega⟩

set_option maxRecDepth 100000 in
set_option maxHeartbeats 1000000 in
theorem rParts_any (a b c : Int) (w : World) :
    Calls Try.prog 46 #[.int .i64 a, .int .i64 b, .int .i64 c] w fun e w' => e = .returned (.tuple #[.int .i64 (mulq a b c), .int .i64 (mulr a b c)]) ∧ w = w' := by
  obtain ⟨a0, a1⟩ := num_bd a
  obtain ⟨b0, b1⟩ := num_bd b
  obtain ⟨c0, c1⟩ := num_bd c
  have HQ : Hid (mulq a b c = if num c = 0 ∨ 9007199254740991 < num a * num b / num c then 9007199254740991 else num a * num b / num c) := rfl
  have HR : Hid (mulr a b c = if num c = 0 ∨ 9007199254740991 < num a * num b / num c then 0 else num a * num b % num c) := rfl
  obtain ⟨A, eA⟩ : ∃ A, num a = A := ⟨_, rfl⟩
  obtain ⟨B, eB⟩ : ∃ B, num b = B := ⟨_, rfl⟩
  obtain ⟨C, eC⟩ : ∃ C, num c = C := ⟨_, rfl⟩
  rw [eA] at a0 a1 HQ HR
  rw [eB] at b0 b1 HQ HR
  rw [eC] at c0 c1 HQ HR
  obtain ⟨q', eq⟩ : ∃ q', mulq a b c = q' := ⟨_, rfl⟩
  obtain ⟨r', er⟩ : ∃ r', mulr a b c = r' := ⟨_, rfl⟩
  rw [eq] at HQ ⊢
  rw [er] at HR ⊢
  clear eq er
  cases hz : (C == 0)
  · have hC : 1 ≤ C := by simp at hz; omega
    go_enter Try.func46, Try.ntmps46
    go_wp2_with (go_at_call 39; refine (rNum_any _ _).mono ?_; rintro e w' ⟨rfl, rfl⟩)
    have st := DivBits.start A B C a0 a1 hC
    clear eA eB eC
    go_loop [8, 9, 10] (fun q l t => ∃ (k : Nat) (qi li ti : Int), q = .int .i64 qi ∧ l = .int .i64 li ∧ t = .int .i64 ti ∧ DivBits A B C k ti qi li) (fun _ _ t => (intOf t).toNat)
    case atStart => exact ⟨53, 0, 0, _, rfl, rfl, rfl, st⟩
    case round =>
      clear st
      obtain ⟨k, qi, li, ti, rfl, rfl, rfl, h⟩ := hrel
      have q0 := h.q0; have q1 := h.q1; have l0 := h.l0; have l1 := h.l1
      match k, h with
      | 0, h =>
        have h0 : ti = 0 := h.ht
        subst h0
        obtain ⟨hq, hl⟩ := h.done hC
        have hn : ¬ (C = 0 ∨ 9007199254740991 < A * B / C) := by rw [← hq]; omega
        have e1 : q' = qi := by rw [HQ.out, if_neg hn, hq]
        have e2 : r' = li := by rw [HR.out, if_neg hn, hl]
        clear hq hl
        subst e1 e2
        go_wp2
        go_ret2
        exact ⟨rfl, rfl⟩
      | k + 1, h =>
        obtain ⟨-, t0, t1⟩ := h.pos
        have at0 : 0 ≤ A / ti := Int.ediv_nonneg a0 (by omega)
        have d0 : 0 ≤ A / ti % 2 := by omega
        have d1 : A / ti % 2 ≤ 1 := by omega
        cases hb : (A / ti % 2 == 1)
        · have hd : A / ti % 2 = 0 := by simp at hb; omega
          have HD := Lib.hid hd
          obtain ⟨v0, v1, v2, v3, -⟩ := h.step (u := 2 * li) hC b0 hd (by omega) (by omega)
          clear hd
          by_cases ho : 9007199254740991 < 2 * qi + 2 * li / C
          · have hov := h.over (u := 2 * li) hC b0 a0 HD.out (by omega) (by omega) ho
            have e1 : q' = 9007199254740991 := by rw [HQ.out, if_pos (.inr hov)]
            have e2 : r' = 0 := by rw [HR.out, if_pos (.inr hov)]
            clear hov
            subst e1 e2
            go_wp2
            go_ret2
            exact ⟨rfl, rfl⟩
          · go_wp2
            go_round
            case rel => exact ⟨k, _, _, _, rfl, rfl, rfl, h.next (u := 2 * li) hC b0 HD.out (by omega) (by omega) (by omega)⟩
            case measure => simp [intOf]; omega
        · have hd : A / ti % 2 = 1 := by simpa using hb
          have HD := Lib.hid hd
          obtain ⟨v0, v1, v2, v3, -⟩ := h.step (u := 2 * li + B) hC b0 hd (by omega) (by omega)
          clear hd
          by_cases ho : 9007199254740991 < 2 * qi + (2 * li + B) / C
          · have hov := h.over (u := 2 * li + B) hC b0 a0 HD.out (by omega) (by omega) ho
            have e1 : q' = 9007199254740991 := by rw [HQ.out, if_pos (.inr hov)]
            have e2 : r' = 0 := by rw [HR.out, if_pos (.inr hov)]
            clear hov
            subst e1 e2
            go_wp2
            go_ret2
            exact ⟨rfl, rfl⟩
          · go_wp2
            go_round
            case rel => exact ⟨k, _, _, _, rfl, rfl, rfl, h.next (u := 2 * li + B) hC b0 HD.out (by omega) (by omega) (by omega)⟩
            case measure => simp [intOf]; omega
  · have hC : C = 0 := by simpa using hz
    have e1 : q' = 9007199254740991 := by rw [HQ.out, if_pos (.inl hC)]
    have e2 : r' = 0 := by rw [HR.out, if_pos (.inl hC)]
    subst e1 e2
    clear hC
    go_enter Try.func46, Try.ntmps46
    go_wp2_with (go_at_call 39; refine (rNum_any _ _).mono ?_; rintro e w' ⟨rfl, rfl⟩)
    go_ret2
    exact ⟨rfl, rfl⟩

set_option maxRecDepth 100000 in
set_option maxHeartbeats 400000 in
theorem rMulDiv_any (a b c : Int) (w : World) :
    Calls Try.prog 44 #[.int .i64 a, .int .i64 b, .int .i64 c] w fun e w' => e = .returned (.int .i64 (mulq a b c)) ∧ w = w' := by
  go_enter Try.func44, Try.ntmps44
  go_wp2_with (go_at_call 46; refine (rParts_any _ _ _ _).mono ?_; rintro e w' ⟨rfl, rfl⟩)
  go_ret
  exact ⟨rfl, rfl⟩

set_option maxRecDepth 100000 in
set_option maxHeartbeats 400000 in
theorem rMul_any (a b : Int) (w : World) :
    Calls Try.prog 41 #[.int .i64 a, .int .i64 b] w fun e w' => e = .returned (.int .i64 (mul a b)) ∧ w = w' := by
  go_enter Try.func41, Try.ntmps41
  go_wp2_with (go_at_call 44; refine (rMulDiv_any _ _ _ _).mono ?_; rintro e w' ⟨rfl, rfl⟩)
  go_ret
  exact ⟨ret_int (mulq_one a b), rfl⟩

set_option maxRecDepth 100000 in
set_option maxHeartbeats 400000 in
theorem rSub_any (a b : Int) (w : World) :
    Calls Try.prog 40 #[.int .i64 a, .int .i64 b] w fun e w' => e = .returned (.int .i64 (sub a b)) ∧ w = w' := by
  have ha := num_bd a
  have hb := num_bd b
  go_enter Try.func40, Try.ntmps40
  go_wp2_with (go_at_call 39; refine (rNum_any _ _).mono ?_; rintro e w' ⟨rfl, rfl⟩)
  go_ret
  exact ⟨rfl, rfl⟩

end Go.Proofs.Ytfacacieegfopaa.Law
