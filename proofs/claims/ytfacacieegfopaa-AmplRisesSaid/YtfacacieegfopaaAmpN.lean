/-
  Plain mathematics of the anti-amplification limit, for its laws: sums in any order; what is got and sent, step by step. Nothing here speaks of a program.
-/
import Derived.Test.YtfacacieegfopaaAmpM
namespace Go.Proofs.Ytfacacieegfopaa.AmpM
set_option linter.unusedVariables false
set_option linter.unusedSimpArgs false

/-- The sum of the first n of them. -/
def su (g : Nat → Int) : Nat → Int
  | 0 => 0
  | n + 1 => su g n + g n
theorem su_shift (g : Nat → Int) (n : Nat) : su g (n + 1) = g 0 + su (fun k => g (k + 1)) n := by
  induction n with
  | zero => show (0 : Int) + g 0 = g 0 + 0; omega
  | succ n ih =>
    have h1 : su g (n + 1 + 1) = su g (n + 1) + g (n + 1) := rfl
    have h2 : su (fun k => g (k + 1)) (n + 1) = su (fun k => g (k + 1)) n + g (n + 1) := rfl
    rw [h1, h2, ih]
    omega
theorem su_congr {g h : Nat → Int} {n : Nat} (e : ∀ k, k < n → g k = h k) : su g n = su h n := by
  induction n with
  | zero => rfl
  | succ n ih =>
    show su g n + g n = su h n + h n
    rw [ih (fun k hk => e k (by omega)), e n (by omega)]
theorem su_rev (g : Nat → Int) (n : Nat) : su (fun i => g (n - 1 - i)) n = su g n := by
  induction n with
  | zero => rfl
  | succ n ih =>
    rw [su_shift]
    have e : su (fun k => g (n + 1 - 1 - (k + 1))) n = su (fun i => g (n - 1 - i)) n := su_congr (fun k hk => by show g (n + 1 - 1 - (k + 1)) = g (n - 1 - k); congr 1; omega)
    show g (n + 1 - 1 - 0) + su (fun k => g (n + 1 - 1 - (k + 1))) n = su g n + g n
    rw [e, ih, show n + 1 - 1 - 0 = n by omega]
    omega
theorem su_bd {g : Nat → Int} (h : ∀ k, sz (g k)) (n : Nat) : 0 ≤ su g n ∧ su g n ≤ 65535 * n := by
  induction n with
  | zero => show (0 : Int) ≤ 0 ∧ (0 : Int) ≤ 65535 * ((0 : Nat) : Int); omega
  | succ n ih =>
    have := h n
    unfold sz at this
    show 0 ≤ su g n + g n ∧ su g n + g n ≤ 65535 * ((n + 1 : Nat) : Int)
    omega
theorem sz_mod (n : Int) : sz (n % 65536) := by unfold sz; omega
theorem gotE_is {n : Int} (h : sz n) : gotE n = 0 := if_pos h
theorem got_at {i o n : Int} {v : Bool} (h : sz n) (h0 : 0 ≤ i) (h1 : i + n ≤ 9007199254740991) : got ⟨i, o, v⟩ n = ⟨i + n, o, v⟩ := got_is (x := ⟨i, o, v⟩) h h0 h1
theorem sentE_valid {i o n : Int} (h : sz n) : sentE ⟨i, o, true⟩ n = 0 := sentE_is h (by rw [lft_valid rfl]; have := h.2; omega)
theorem sent_valid {i o n : Int} (h : sz n) (h0 : 0 ≤ o) (h1 : o + n ≤ 9007199254740991) : sent ⟨i, o, true⟩ n = ⟨i, o + n, true⟩ := sent_is (x := ⟨i, o, true⟩) (sentE_valid h) h0 h1
theorem got_su {g : Nat → Int} (h : ∀ k, sz (g k)) {i : Nat} (hi : i < 100) {o : Int} {v : Bool} : got ⟨su g i, o, v⟩ (g i) = ⟨su g (i + 1), o, v⟩ := by
  have b := su_bd h i
  have := (h i).2
  exact got_at (h i) b.1 (by omega)
theorem sent_su {g : Nat → Int} (h : ∀ k, sz (g k)) {i : Nat} (hi : i < 100) {a : Int} : sent ⟨a, su g i, true⟩ (g i) = ⟨a, su g (i + 1), true⟩ := by
  have b := su_bd h i
  have := (h i).2
  exact sent_valid (h i) b.1 (by omega)
/-- What is sent ahead of validation. -/
theorem sent_o {x : Lm} {n m : Int} (h : 0 ≤ x.o) (h1 : x.o ≤ m) (h2 : m + 65535 ≤ 9007199254740991) : 0 ≤ (sent x n).o ∧ (sent x n).o ≤ m + 65535 ∧ (sent x n).v = x.v := by
  by_cases e : sentE x n = 0
  · have hz := (sentE_of e).1
    unfold sz at hz
    rw [sent_is e h (by omega)]
    exact ⟨by show 0 ≤ x.o + n; omega, by show x.o + n ≤ _; omega, rfl⟩
  · rw [sent_no e]
    exact ⟨h, by omega, rfl⟩
theorem got_ov (x : Lm) (n : Int) : (got x n).o = x.o ∧ (got x n).v = x.v := by
  unfold got; split <;> exact ⟨rfl, rfl⟩
theorem lft_at {i o : Int} (h0 : 0 ≤ o) (h1 : o ≤ 3 * i) (h2 : 3 * i ≤ 9007199254740991) : lft ⟨i, o, false⟩ = 3 * i - o := lft_small (x := ⟨i, o, false⟩) rfl h0 h1 h2
theorem rise_sent {g k : Int} (hk : sz k) (h : k ≤ 3 * g) (h2 : 3 * g ≤ 9007199254740991) : sentE ⟨g, 0, false⟩ k = 0 ∧ sent ⟨g, 0, false⟩ k = ⟨g, k, false⟩ := by
  have hz := hk.1
  have hz1 := hk.2
  have e : sentE ⟨g, 0, false⟩ k = 0 := sentE_is hk (by rw [lft_at (by decide) (by omega) h2]; omega)
  refine ⟨e, ?_⟩
  rw [sent_is e (Int.le_refl _) (by show (0 : Int) + k ≤ _; omega)]
  show (⟨g, 0 + k, false⟩ : Lm) = _
  rw [Int.zero_add]
theorem can_true {x : Lm} {n : Int} (h : sentE x n = 0) : can x n = true := by rw [can_is]; exact decide_eq_true h
theorem can_valid {i o n : Int} (h : sz n) : can ⟨i, o, true⟩ n = true := can_true (sentE_valid h)
theorem can_over (x : Lm) : can x 65536 = false := decide_eq_false (fun e => absurd e.1.2 (by decide))
end Go.Proofs.Ytfacacieegfopaa.AmpM
