/-
  Plain mathematics, more: numbers in as few bytes are ordered as the numbers are; what is written is strict just if it is in as few bytes; what was read is written as it stood there.
-/
import Derived.Test.YtdialcddknibhaaDoorOctN
namespace Go.Proofs.YtdialcddknibhaaDoor.Oct
open OctM
set_option linter.unusedVariables false
set_option linter.unusedSimpArgs false

theorem front_enc (x s : Int) (rest : List Int) (h : size x ≠ 0) (h1 : four s) (h2 : size x ≤ s) : front (enc x s.toNat ++ rest) = decide (s = size x) ∧ dlen (enc x s.toNat ++ rest) = s := by
  obtain ⟨a, b, c⟩ := size_le x s h1 h h2
  obtain ⟨d, e, f⟩ := back x s rest h1 a b c
  refine ⟨?_, f⟩
  unfold front
  rw [d, e, f]; simp
theorem enc_pos (x s : Int) (rest : List Int) (h1 : four s) : 0 < (enc x s.toNat ++ rest).length := by
  rw [List.length_append, enc_length]; rcases h1 with rfl | rfl | rfl | rfl <;> simp <;> omega
theorem strict_enc (x s : Int) (rest : List Int) (h : size x ≠ 0) (h1 : four s) (h2 : size x ≤ s) : strict (enc x s.toNat ++ rest) = (decide (s = size x) && strict rest) := by
  obtain ⟨e, f⟩ := front_enc x s rest h h1 h2
  have hp := enc_pos x s rest h1
  by_cases hs : s = size x
  · rw [strict_step _ hp (by rw [e]; simpa using hs), f, List.drop_left' (enc_length _ _)]
    simp [hs]
  · rw [strict_not _ hp (by rw [e]; simpa using hs)]
    simp [hs]

theorem size_mono (n m : Int) (h0 : 0 ≤ n) (h : n ≤ m) (h1 : m ≤ 9007199254740991) : size n ≤ size m := by
  rcases Int.lt_or_le m 64 with a | a
  · rw [size_one n h0 (by omega), size_one m (by omega) a]; omega
  · rcases Int.lt_or_le m 16384 with b | b
    · rw [size_two m a b]
      rcases Int.lt_or_le n 64 with c | c
      · rw [size_one n h0 c]; omega
      · rw [size_two n c (by omega)]; omega
    · rcases Int.lt_or_le m 1073741824 with c | c
      · rw [size_four m b c]
        rcases Int.lt_or_le n 64 with d | d
        · rw [size_one n h0 d]; omega
        · rcases Int.lt_or_le n 16384 with e | e
          · rw [size_two n d e]; omega
          · rw [size_four n e (by omega)]; omega
      · rw [size_eight m c h1]; exact (size_bd n).2
/-- Fewer bytes, the lesser number. -/
theorem size_order (n m : Int) (hn0 : 0 ≤ n) (hn : n ≤ 9007199254740991) (hm0 : 0 ≤ m) (hm : m ≤ 9007199254740991) (h : size n ≠ size m) : decide (size n < size m) = decide (n < m) := by
  by_cases h1 : n < m
  · have := size_mono n m hn0 (by omega) hm
    simp [h1]; omega
  · have := size_mono m n hm0 (by omega) hn
    simp [h1]; omega

/-- The first k bytes of two numbers are the same. -/
def upTo (n m : Int) (s k : Nat) : Prop := n / 256 ^ (s - k) = m / 256 ^ (s - k)
theorem upTo_zero (n m : Int) (s : Nat) (hn0 : 0 ≤ n) (hn : n < 256 ^ s) (hm0 : 0 ≤ m) (hm : m < 256 ^ s) : upTo n m s 0 := by
  unfold upTo; rw [Nat.sub_zero, Int.ediv_eq_zero_of_lt hn0 hn, Int.ediv_eq_zero_of_lt hm0 hm]
theorem upTo_all (n m : Int) (s : Nat) (h : upTo n m s s) : n = m := by
  unfold upTo at h; rw [Nat.sub_self] at h; simpa using h
theorem nth_enc (n : Int) (s k : Nat) (hk : k < s) : nth (enc n s) k = dig n s k + (if k = 0 then 64 * place s else 0) := by
  unfold nth enc be
  by_cases h : k = 0
  · subst h; simp [List.getD, hk]
  · simp [List.getD, hk, h, List.getElem?_set, Ne.symm h]
theorem dig_split (n : Int) (s k : Nat) (hk : k < s) : n / 256 ^ (s - (k + 1)) = 256 * (n / 256 ^ (s - k)) + dig n s k := by
  have := digit_step n (s - (k + 1))
  unfold dig
  rw [show s - 1 - k = s - (k + 1) by omega]
  rw [show s - (k + 1) + 1 = s - k by omega] at this
  exact this.symm
theorem upTo_step (n m : Int) (s k : Nat) (hk : k < s) (h : upTo n m s k) (he : nth (enc n s) k = nth (enc m s) k) : upTo n m s (k + 1) := by
  rw [nth_enc n s k hk, nth_enc m s k hk] at he
  unfold upTo at *
  rw [dig_split n s k hk, dig_split m s k hk, h]
  omega
theorem upTo_differ (n m : Int) (s k : Nat) (hk : k < s) (h : upTo n m s k) (he : nth (enc n s) k ≠ nth (enc m s) k) : decide (nth (enc n s) k < nth (enc m s) k) = decide (n < m) := by
  rw [nth_enc n s k hk, nth_enc m s k hk] at *
  unfold upTo at h
  have e1 := dig_split n s k hk
  have e2 := dig_split m s k hk
  rw [h] at e1
  have hp := pow_pos (s - (k + 1))
  by_cases hl : n < m
  · have : n / 256 ^ (s - (k + 1)) ≤ m / 256 ^ (s - (k + 1)) := Int.ediv_le_ediv hp (by omega)
    simp [hl]; omega
  · have : m / 256 ^ (s - (k + 1)) ≤ n / 256 ^ (s - (k + 1)) := Int.ediv_le_ediv hp (by omega)
    simp [hl]; omega

/-- What was read is written as it stood there. -/
theorem dig_shift (a y : Int) (k j : Nat) (hj : j < k) (h0 : 0 ≤ y) (h1 : y < 256) : dig (256 * a + y) (k + 1) j = dig a k j := by
  unfold dig
  rw [show k + 1 - 1 - j = (k - 1 - j) + 1 by omega, Int.pow_succ, Int.mul_comm (256 ^ (k - 1 - j)) 256]
  have : (256 * a + y) / (256 * 256 ^ (k - 1 - j)) = (256 * a + y) / 256 / 256 ^ (k - 1 - j) := by rw [Int.ediv_ediv, if_neg (by omega)]; omega
  rw [this, show (256 * a + y) / 256 = a by omega]
theorem dig_last (a y : Int) (k : Nat) (h0 : 0 ≤ y) (h1 : y < 256) : dig (256 * a + y) (k + 1) k = y := by
  unfold dig; rw [show k + 1 - 1 - k = 0 by omega]; simp; omega
theorem acc_digits (l : List Int) (hb : allByte l) : ∀ k, 1 ≤ k → k ≤ l.length → dig (acc l k) k 0 = hd l % 64 ∧ ∀ j, 1 ≤ j → j < k → dig (acc l k) k j = nth l j := by
  intro k h1
  induction k with
  | zero => omega
  | succ k ih =>
    intro h2
    rcases Nat.eq_zero_or_pos k with rfl | hk
    · refine ⟨?_, fun j h3 h4 => by omega⟩
      rw [acc_one]; unfold dig; simp; omega
    · obtain ⟨i1, i2⟩ := ih hk (by omega)
      have g := getD_byte hb k
      rw [acc_step l k hk (by omega)]
      refine ⟨by rw [dig_shift _ _ _ _ hk g.1 g.2]; exact i1, fun j h3 h4 => ?_⟩
      by_cases e : j = k
      · subst e; exact dig_last _ _ _ g.1 g.2
      · rw [dig_shift _ _ _ _ (by omega) g.1 g.2]; exact i2 j h3 (by omega)
theorem lenOf_mark (x : Int) (h0 : 0 ≤ x) (h1 : x < 256) : x % 64 + 64 * place (lenOf x) = x := by
  unfold lenOf
  split
  · simp [place]; omega
  · split
    · simp [place]; omega
    · split
      · simp [place]; omega
      · simp [place]; omega
theorem enc_raw (l : List Int) (hb : allByte l) (h : 0 < l.length) (h1 : lenOf (hd l) ≤ l.length) : enc (raw l) (lenOf (hd l)).toNat = l.take (lenOf (hd l)).toNat := by
  have hl := lenOf_bd (hd l)
  obtain ⟨k, hk⟩ : ∃ k : Nat, (lenOf (hd l)) = k := ⟨(lenOf (hd l)).toNat, by omega⟩
  have hx : 0 ≤ hd l ∧ hd l < 256 := by have := getD_byte hb 0; rwa [nth_zero] at this
  have hm := lenOf_mark (hd l) hx.1 hx.2
  rw [← acc_raw, hk, Int.toNat_natCast]
  rw [hk] at hm
  obtain ⟨i1, i2⟩ := acc_digits l hb k (by omega) (by omega)
  apply List.ext_getElem
  · rw [enc_length, List.length_take]; omega
  · intro j h3 h4
    rw [enc_length] at h3
    have e : ∀ (m : List Int) (hj : j < m.length), m[j] = nth m j := fun m hj => by simp [nth, List.getD, hj]
    rw [e, e, nth_enc _ _ _ h3]
    have e2 : nth (l.take k) j = nth l j := by simp [nth, List.getD, List.getElem?_take, h3]
    rw [e2]
    by_cases hj : j = 0
    · subst hj; rw [if_pos rfl, i1, hm, nth_zero]
    · rw [if_neg hj, i2 j (by omega) h3]; omega
theorem raw_bd (l : List Int) (hb : allByte l) (h : 0 < l.length) (h1 : lenOf (hd l) ≤ l.length) : 0 ≤ raw l ∧ raw l < 64 * 256 ^ ((lenOf (hd l)).toNat - 1) := by
  have hl := lenOf_bd (hd l)
  rw [← acc_raw]; exact acc_bd l hb _ (by omega) (by omega)
theorem size_of_lt (n s : Int) (hs : four s) (h0 : 0 ≤ n) (hm : n ≤ 9007199254740991) (h : n < 64 * 256 ^ (s.toNat - 1)) : size n ≠ 0 ∧ size n ≤ s := by
  refine ⟨fun e => by rw [size_zero] at e; omega, ?_⟩
  rcases hs with rfl | rfl | rfl | rfl
  · have : n < 64 := by simpa using h
    rw [size_one n h0 this]; omega
  · have : n < 16384 := by simpa using h
    rcases Int.lt_or_le n 64 with h1 | h1
    · rw [size_one n h0 h1]; omega
    · rw [size_two n h1 this]; omega
  · have : n < 1073741824 := by simpa using h
    rcases Int.lt_or_le n 64 with h1 | h1
    · rw [size_one n h0 h1]; omega
    · rcases Int.lt_or_le n 16384 with h2 | h2
      · rw [size_two n h1 h2]; omega
      · rw [size_four n h2 this]; omega
  · exact (size_bd n).2

end Go.Proofs.YtdialcddknibhaaDoor.Oct
