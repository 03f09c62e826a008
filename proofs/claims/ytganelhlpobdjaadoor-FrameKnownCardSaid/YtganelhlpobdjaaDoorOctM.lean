/-
  Plain mathematics of numbers that are written in 1, 2, 4 or 8 bytes: sizes, digits, what is written, what is read. Nothing here speaks of a program.
-/
namespace Go.Proofs.YtganelhlpobdjaaDoor.OctM

/-- In how many bytes a number can be written at least. -/
def size (n : Int) : Int := if n < 0 ∨ 9007199254740991 < n then 0 else if n < 64 then 1 else if n < 16384 then 2 else if n < 1073741824 then 4 else 8
/-- What two bits stand for a size. -/
def place (s : Int) : Int := if s = 1 then 0 else if s = 2 then 1 else if s = 4 then 2 else if s = 8 then 3 else -1
/-- One of the four. -/
def four (s : Int) : Prop := s = 1 ∨ s = 2 ∨ s = 4 ∨ s = 8
instance (s : Int) : Decidable (four s) := by unfold four; infer_instance
/-- Byte j of a number in s bytes, the highest first. -/
def dig (n : Int) (s j : Nat) : Int := n / 256 ^ (s - 1 - j) % 256
def be (n : Int) (s : Nat) : List Int := (List.range s).map (dig n s)
/-- A number's bytes. -/
def enc (n : Int) (s : Nat) : List Int := (be n s).set 0 (dig n s 0 + 64 * place s)
/-- The number of digits behind another number. -/
def val (a : Int) (l : List Int) : Int := l.foldl (fun x b => 256 * x + b) a
/-- Bytes. -/
def allByte (l : List Int) : Prop := ∀ x ∈ l, 0 ≤ x ∧ x < 256

theorem size_cases (n : Int) : size n = 0 ∨ size n = 1 ∨ size n = 2 ∨ size n = 4 ∨ size n = 8 := by
  unfold size; split
  · simp
  · split
    · simp
    · split
      · simp
      · split <;> simp
theorem size_zero (n : Int) : size n = 0 ↔ (n < 0 ∨ 9007199254740991 < n) := by
  unfold size; split
  · simp_all
  · rename_i h; split
    · simp_all
    · split
      · simp_all
      · split <;> simp_all
theorem size_one (n : Int) (h0 : 0 ≤ n) (h : n < 64) : size n = 1 := by unfold size; rw [if_neg (by omega), if_pos h]
theorem size_two (n : Int) (h0 : 64 ≤ n) (h : n < 16384) : size n = 2 := by unfold size; rw [if_neg (by omega), if_neg (by omega), if_pos h]
theorem size_four (n : Int) (h0 : 16384 ≤ n) (h : n < 1073741824) : size n = 4 := by unfold size; rw [if_neg (by omega), if_neg (by omega), if_neg (by omega), if_pos h]
theorem size_eight (n : Int) (h0 : 1073741824 ≤ n) (h : n ≤ 9007199254740991) : size n = 8 := by unfold size; rw [if_neg (by omega), if_neg (by omega), if_neg (by omega), if_neg (by omega)]
theorem size_none (n : Int) (h : n < 0 ∨ 9007199254740991 < n) : size n = 0 := by unfold size; rw [if_pos h]
theorem size_bd (n : Int) : 0 ≤ size n ∧ size n ≤ 8 := by rcases size_cases n with h | h | h | h | h <;> omega
theorem size_four_of (n : Int) (h : size n ≠ 0) : four (size n) := by unfold four; rcases size_cases n with h | h | h | h | h <;> omega

/-- What a number is below that can be written in s bytes. -/
theorem size_le (n s : Int) (hs : four s) (h0 : size n ≠ 0) (h : size n ≤ s) : 0 ≤ n ∧ n ≤ 9007199254740991 ∧ n < 64 * 256 ^ (s.toNat - 1) := by
  have hz : ¬ (n < 0 ∨ 9007199254740991 < n) := fun h => h0 (size_none n h)
  refine ⟨by omega, by omega, ?_⟩
  rcases hs with rfl | rfl | rfl | rfl
  · show n < 64 * 256 ^ 0
    rcases Int.lt_or_le n 64 with h1 | h1
    · simpa using h1
    · rcases Int.lt_or_le n 16384 with h2 | h2
      · rw [size_two n h1 h2] at h; omega
      · rcases Int.lt_or_le n 1073741824 with h3 | h3
        · rw [size_four n h2 h3] at h; omega
        · rw [size_eight n h3 (by omega)] at h; omega
  · show n < 64 * 256 ^ 1
    rcases Int.lt_or_le n 16384 with h2 | h2
    · simpa using h2
    · rcases Int.lt_or_le n 1073741824 with h3 | h3
      · rw [size_four n h2 h3] at h; omega
      · rw [size_eight n h3 (by omega)] at h; omega
  · show n < 64 * 256 ^ 3
    rcases Int.lt_or_le n 1073741824 with h3 | h3
    · simpa using h3
    · rw [size_eight n h3 (by omega)] at h; omega
  · show n < 64 * 256 ^ 7
    have : (64 * 256 ^ 7 : Int) = 4611686018427387904 := by decide
    omega

theorem be_length (n : Int) (s : Nat) : (be n s).length = s := by simp [be]
theorem enc_length (n : Int) (s : Nat) : (enc n s).length = s := by simp [enc, be]

theorem val_append (a : Int) (l m : List Int) : val a (l ++ m) = val (val a l) m := by simp [val]
theorem val_snoc (a : Int) (l : List Int) (x : Int) : val a (l ++ [x]) = 256 * val a l + x := by simp [val]
theorem val_nil (a : Int) : val a [] = a := rfl
theorem val_cons (a x : Int) (l : List Int) : val a (x :: l) = val (256 * a + x) l := rfl

theorem pow_pos (k : Nat) : (0 : Int) < 256 ^ k := Int.pow_pos (by decide)
theorem div_div_pow (n : Int) (k : Nat) : n / 256 ^ (k + 1) = n / 256 ^ k / 256 := by
  rw [Int.ediv_ediv, if_neg (by have := pow_pos k; omega), Int.pow_succ]; omega
theorem digit_step (n : Int) (k : Nat) : 256 * (n / 256 ^ (k + 1)) + n / 256 ^ k % 256 = n / 256 ^ k := by
  rw [div_div_pow]; omega

/-- Digits from the j-th on, behind what the first j say. -/
theorem val_digits (n : Int) (s : Nat) : ∀ m j : Nat, j + m = s → val (n / 256 ^ m) ((List.range' j m 1).map (dig n s)) = n := by
  intro m
  induction m with
  | zero => intro j _; simp [val]
  | succ m ih =>
    intro j hj
    rw [List.range'_succ, List.map_cons, val_cons]
    have : dig n s j = n / 256 ^ m % 256 := by unfold dig; rw [show s - 1 - j = m by omega]
    rw [this, digit_step]
    exact ih (j + 1) (by omega)

theorem be_eq (n : Int) (s : Nat) : be n s = (List.range' 0 s 1).map (dig n s) := by rw [be, List.range_eq_range']
theorem enc_cons (n : Int) (s : Nat) : enc n (s + 1) = (n / 256 ^ s % 256 + 64 * place (s + 1 : Nat)) :: (List.range' 1 s 1).map (dig n (s + 1)) := by
  have hd : dig n (s + 1) 0 = n / 256 ^ s % 256 := by unfold dig; simp
  rw [enc, be_eq, List.range'_succ, List.map_cons, List.set_cons_zero, hd]

theorem dig_bd (n : Int) (s j : Nat) : 0 ≤ dig n s j ∧ dig n s j < 256 := by unfold dig; omega
theorem be_bytes (n : Int) (s : Nat) : allByte (be n s) := by
  intro x hx; simp [be] at hx; obtain ⟨j, _, rfl⟩ := hx; exact dig_bd n s j
theorem place_bd (s : Int) (h : four s) : 0 ≤ place s ∧ place s ≤ 3 := by rcases h with rfl | rfl | rfl | rfl <;> decide
/-- The highest digit of a number that fits is below 64. -/
theorem top_bd (n : Int) (k : Nat) (h0 : 0 ≤ n) (h : n < 64 * 256 ^ k) : 0 ≤ n / 256 ^ k ∧ n / 256 ^ k < 64 :=
  ⟨Int.ediv_nonneg h0 (Int.le_of_lt (pow_pos k)), Int.ediv_lt_of_lt_mul (pow_pos k) h⟩
theorem enc_bytes (n s : Int) (hs : four s) (h0 : 0 ≤ n) (h : n < 64 * 256 ^ (s.toNat - 1)) : allByte (enc n s.toNat) := by
  obtain ⟨k, hk⟩ : ∃ k : Nat, s.toNat = k + 1 := ⟨s.toNat - 1, by rcases hs with rfl | rfl | rfl | rfl <;> decide⟩
  have hsk : s = ((k + 1 : Nat) : Int) := by rcases hs with rfl | rfl | rfl | rfl <;> omega
  rw [hk] at h ⊢
  have ht := top_bd n k h0 (by simpa using h)
  have hp := place_bd s hs
  rw [hsk] at hp
  intro x hx
  rw [enc_cons, List.mem_cons] at hx
  rcases hx with rfl | hx
  · omega
  · simp at hx; obtain ⟨j, _, rfl⟩ := hx; exact dig_bd n _ j

/-- The first byte, and the k-th one (0, if there is none). -/
def hd (l : List Int) : Int := l.headD 0
def nth (l : List Int) (k : Nat) : Int := l.getD k 0
theorem hd_cons (a : Int) (l : List Int) : hd (a :: l) = a := rfl
theorem nth_zero (l : List Int) : nth l 0 = hd l := by cases l <;> rfl
/-- How many bytes the first byte says. -/
def lenOf (b : Int) : Int := if b < 64 then 1 else if b < 128 then 2 else if b < 192 then 4 else 8
theorem lenOf_four (b : Int) : four (lenOf b) := by unfold four lenOf; split; simp; split; simp; split <;> simp
theorem lenOf_bd (b : Int) : 1 ≤ lenOf b ∧ lenOf b ≤ 8 := by rcases lenOf_four b with h | h | h | h <;> omega
/-- The number at the front, as its bytes say it (whether it may be or not). -/
def raw (l : List Int) : Int := val (hd l % 64) ((l.take (lenOf (hd l)).toNat).tail)
/-- What reading at the front ends in: 0 well, 3 cut off, 9 too great. -/
def derr (l : List Int) : Int := if l.length = 0 then 3 else if (l.length : Int) < lenOf (hd l) then 3 else if 9007199254740991 < raw l then 9 else 0
def dnum (l : List Int) : Int := if derr l = 0 then raw l else 0
def dlen (l : List Int) : Int := if derr l = 0 then lenOf (hd l) else 0

theorem derr_cases (l : List Int) : derr l = 0 ∨ derr l = 3 ∨ derr l = 9 := by
  unfold derr; split
  · simp
  · split
    · simp
    · split <;> simp
theorem derr_nil : derr [] = 3 := by decide
theorem derr_len (l : List Int) (h : derr l = 0) : 0 < l.length ∧ lenOf (hd l) ≤ l.length := by
  unfold derr at h; split at h
  · omega
  · split at h
    · omega
    · omega
theorem dlen_bd (l : List Int) : 0 ≤ dlen l ∧ dlen l ≤ l.length := by
  unfold dlen; split
  · rename_i h; have := derr_len l h; have := lenOf_bd (hd l); omega
  · omega
theorem dlen_pos (l : List Int) (h : derr l = 0) : 1 ≤ dlen l := by
  unfold dlen; rw [if_pos h]; exact (lenOf_bd _).1

theorem lenOf_place (t s : Int) (hs : four s) (h0 : 0 ≤ t) (h1 : t < 64) : lenOf (t + 64 * place s) = s := by
  rcases hs with rfl | rfl | rfl | rfl <;> simp [place, lenOf] <;> omega
theorem mod_place (t s : Int) (h0 : 0 ≤ t) (h1 : t < 64) : (t + 64 * place s) % 64 = t := by omega

/-- What was written is what is read, whatever stands behind. -/
theorem back (n s : Int) (rest : List Int) (hs : four s) (h0 : 0 ≤ n) (hm : n ≤ 9007199254740991) (h : n < 64 * 256 ^ (s.toNat - 1)) :
    derr (enc n s.toNat ++ rest) = 0 ∧ dnum (enc n s.toNat ++ rest) = n ∧ dlen (enc n s.toNat ++ rest) = s := by
  obtain ⟨k, hk⟩ : ∃ k : Nat, s.toNat = k + 1 := ⟨s.toNat - 1, by rcases hs with rfl | rfl | rfl | rfl <;> decide⟩
  have hsk : s = ((k + 1 : Nat) : Int) := by rcases hs with rfl | rfl | rfl | rfl <;> omega
  rw [hk] at h ⊢
  have ht := top_bd n k h0 (by simpa using h)
  have hhd : hd (enc n (k + 1) ++ rest) = n / 256 ^ k + 64 * place s := by
    rw [enc_cons, ← hsk, List.cons_append, hd_cons]; omega
  have hl : lenOf (hd (enc n (k + 1) ++ rest)) = s := by rw [hhd]; exact lenOf_place _ _ hs ht.1 ht.2
  have hr : raw (enc n (k + 1) ++ rest) = n := by
    unfold raw
    rw [hl, hhd, mod_place _ _ ht.1 ht.2, hk, List.take_append_of_le_length (by rw [enc_length]; omega), List.take_of_length_le (by rw [enc_length]; omega), enc_cons, List.tail_cons]
    exact val_digits n (k + 1) k 1 (by omega)
  have hlen : ((enc n (k + 1) ++ rest).length : Int) = s + rest.length := by rw [List.length_append, enc_length]; omega
  have he : derr (enc n (k + 1) ++ rest) = 0 := by
    unfold derr
    rw [hl, hr, hlen, if_neg (by rw [List.length_append, enc_length]; omega), if_neg (by omega), if_neg (by omega)]
  exact ⟨he, by unfold dnum; rw [if_pos he, hr], by unfold dlen; rw [if_pos he, hl]⟩

/-- What the first k bytes say. -/
def acc (l : List Int) (k : Nat) : Int := val (hd l % 64) ((l.take k).tail)
theorem acc_one (l : List Int) : acc l 1 = hd l % 64 := by unfold acc; cases l <;> simp [val, hd]
theorem acc_step (l : List Int) (k : Nat) (h1 : 1 ≤ k) (h2 : k < l.length) : acc l (k + 1) = 256 * acc l k + nth l k := by
  unfold acc
  match l, k, h1, h2 with
  | a :: t, j + 1, _, h2 =>
    have hj : j < t.length := by simpa using h2
    simp only [List.take_succ_cons, List.tail_cons]
    rw [List.take_succ_eq_append_getElem hj, val_snoc]
    simp [nth, hd, List.getD, hj]
theorem getD_byte {l : List Int} (h : allByte l) (k : Nat) : 0 ≤ nth l k ∧ nth l k < 256 := by
  by_cases hk : k < l.length
  · have := h l[k] (List.getElem_mem hk); simpa [nth, List.getD, hk] using this
  · simp [nth, List.getD, Nat.le_of_not_lt hk]
theorem acc_bd (l : List Int) (hb : allByte l) : ∀ k, 1 ≤ k → k ≤ l.length → 0 ≤ acc l k ∧ acc l k < 64 * 256 ^ (k - 1) := by
  intro k h1
  induction k with
  | zero => omega
  | succ k ih =>
    intro h2
    rcases Nat.eq_zero_or_pos k with rfl | hk
    · rw [acc_one]; simp; omega
    · have i := ih hk (by omega)
      have g := getD_byte hb k
      rw [acc_step l k hk (by omega)]
      have hp : (256 : Int) ^ (k + 1 - 1) = 256 ^ (k - 1) * 256 := by rw [← Int.pow_succ]; congr 1; omega
      rw [hp]
      omega
theorem acc_small (l : List Int) (hb : allByte l) (k : Nat) (h1 : 1 ≤ k) (h2 : k ≤ l.length) (h3 : k < 8) : 0 ≤ acc l k ∧ acc l k ≤ 18014398509481984 := by
  have h := acc_bd l hb k h1 h2
  have hk : k = 1 ∨ k = 2 ∨ k = 3 ∨ k = 4 ∨ k = 5 ∨ k = 6 ∨ k = 7 := by omega
  rcases hk with rfl | rfl | rfl | rfl | rfl | rfl | rfl <;> simp at h <;> omega
theorem acc_large (l : List Int) (hb : allByte l) (k : Nat) (h1 : 1 ≤ k) (h2 : k ≤ l.length) (h3 : k ≤ 8) : 0 ≤ acc l k ∧ acc l k ≤ 4611686018427387904 := by
  have h := acc_bd l hb k h1 h2
  have hk : k = 1 ∨ k = 2 ∨ k = 3 ∨ k = 4 ∨ k = 5 ∨ k = 6 ∨ k = 7 ∨ k = 8 := by omega
  rcases hk with rfl | rfl | rfl | rfl | rfl | rfl | rfl | rfl <;> simp at h <;> omega
theorem acc_raw (l : List Int) : acc l (lenOf (hd l)).toNat = raw l := rfl
theorem lenOf_at (x : Int) (h0 : 0 ≤ x) (h1 : x < 256) : [1, 2, 4, 8][(x / 64).toNat]? = some (lenOf x) := by
  have h : (x / 64).toNat = 0 ∨ (x / 64).toNat = 1 ∨ (x / 64).toNat = 2 ∨ (x / 64).toNat = 3 := by omega
  rcases h with h | h | h | h <;> rw [h] <;> simp [lenOf] <;> omega
theorem derr_trunc (l : List Int) (h : l.length = 0 ∨ (l.length : Int) < lenOf (hd l)) : derr l = 3 ∧ dnum l = 0 ∧ dlen l = 0 := by
  have he : derr l = 3 := by
    unfold derr; split
    · rfl
    · rw [if_pos (by omega)]
  exact ⟨he, by unfold dnum; rw [if_neg (by omega)], by unfold dlen; rw [if_neg (by omega)]⟩
theorem derr_great (l : List Int) (h : 0 < l.length) (h1 : lenOf (hd l) ≤ l.length) (h2 : 9007199254740991 < raw l) : derr l = 9 ∧ dnum l = 0 ∧ dlen l = 0 := by
  have he : derr l = 9 := by unfold derr; rw [if_neg (by omega), if_neg (by omega), if_pos h2]
  exact ⟨he, by unfold dnum; rw [if_neg (by omega)], by unfold dlen; rw [if_neg (by omega)]⟩
theorem derr_well (l : List Int) (h : 0 < l.length) (h1 : lenOf (hd l) ≤ l.length) (h2 : raw l ≤ 9007199254740991) : derr l = 0 ∧ dnum l = raw l ∧ dlen l = lenOf (hd l) := by
  have he : derr l = 0 := by unfold derr; rw [if_neg (by omega), if_neg (by omega), if_neg (by omega)]
  exact ⟨he, by unfold dnum; rw [if_pos he], by unfold dlen; rw [if_pos he]⟩

end Go.Proofs.YtganelhlpobdjaaDoor.OctM
