/-
  Plain mathematics of the anti-amplification limit: what remains, what a call makes of a limit. Nothing here speaks of a program.
-/
import Derived.Test.YtfacacieegfopaaSatM
namespace Go.Proofs.Ytfacacieegfopaa.AmpM
set_option linter.unusedVariables false
set_option linter.unusedSimpArgs false

/-- Bytes that were got, and sent; is the address validated? -/
structure Lm where
  i : Int
  o : Int
  v : Bool
deriving DecidableEq, Inhabited
def tm (n : Int) : Prop := 0 ≤ n ∧ n ≤ 9007199254740991
structure Ok (x : Lm) : Prop where
  i : tm x.i
  o : tm x.o
def new (v : Bool) : Lm := ⟨0, 0, v⟩
theorem new_ok (v : Bool) : Ok (new v) := ⟨⟨Int.le_refl _, by show (0 : Int) ≤ _; decide⟩, ⟨Int.le_refl _, by show (0 : Int) ≤ _; decide⟩⟩
def sz (n : Int) : Prop := 0 ≤ n ∧ n ≤ 65535
instance (n : Int) : Decidable (sz n) := by unfold sz; infer_instance
/-- What remains. -/
def lft (x : Lm) : Int := if x.v = true then 9007199254740991 else Sat.sub (Sat.mul 3 x.i) x.o
def gotE (n : Int) : Int := if sz n then 0 else 2
def got (x : Lm) (n : Int) : Lm := if sz n then { x with i := Sat.add x.i n } else x
def sentE (x : Lm) (n : Int) : Int := if sz n then (if lft x < n then 212 else 0) else 2
def sent (x : Lm) (n : Int) : Lm := if sentE x n = 0 then { x with o := Sat.add x.o n } else x
def valid (x : Lm) : Lm := { x with v := true }
def can (x : Lm) (n : Int) : Bool := decide (sz n ∧ n ≤ lft x)
theorem can_is (x : Lm) (n : Int) : can x n = decide (sentE x n = 0) := by
  unfold can sentE
  by_cases h : sz n
  · by_cases h2 : lft x < n
    · rw [if_pos h, if_pos h2, decide_eq_false (by omega), decide_eq_false (by decide)]
    · rw [if_pos h, if_neg h2, decide_eq_true ⟨h, by omega⟩, decide_eq_true rfl]
  · rw [if_neg h, decide_eq_false (fun e => h e.1), decide_eq_false (by decide)]
theorem got_ok {x : Lm} (h : Ok x) (n : Int) : Ok (got x n) := by
  unfold got
  split
  · exact ⟨Sat.add_bd _ _, h.o⟩
  · exact h
theorem sent_ok {x : Lm} (h : Ok x) (n : Int) : Ok (sent x n) := by
  unfold sent
  split
  · exact ⟨h.i, Sat.add_bd _ _⟩
  · exact h
theorem valid_ok {x : Lm} (h : Ok x) : Ok (valid x) := ⟨h.i, h.o⟩
theorem sentE_of {x : Lm} {n : Int} (h : sentE x n = 0) : sz n ∧ n ≤ lft x := by
  unfold sentE at h
  by_cases h1 : sz n
  · rw [if_pos h1] at h
    by_cases h2 : lft x < n
    · rw [if_pos h2] at h; cases h
    · exact ⟨h1, by omega⟩
  · rw [if_neg h1] at h; cases h
theorem sentE_is {x : Lm} {n : Int} (h : sz n) (h2 : n ≤ lft x) : sentE x n = 0 := by
  unfold sentE; rw [if_pos h, if_neg (by omega)]
/-- As long as sums are small they are not cut. -/
theorem add_small {a b : Int} (h0 : 0 ≤ a) (h1 : 0 ≤ b) (h : a + b ≤ 9007199254740991) : Sat.add a b = a + b := by
  unfold Sat.add
  rw [Sat.num_id a h0 (by omega), Sat.num_id b h1 (by omega), Sat.num_id _ (by omega) h]
theorem lft_small {x : Lm} (hv : x.v = false) (h0 : 0 ≤ x.o) (h1 : x.o ≤ 3 * x.i) (h2 : 3 * x.i ≤ 9007199254740991) : lft x = 3 * x.i - x.o := by
  unfold lft
  rw [if_neg (by rw [hv]; decide)]
  have e : Sat.mul 3 x.i = 3 * x.i := by
    unfold Sat.mul
    rw [Sat.num_id 3 (by decide) (by decide), Sat.num_id x.i (by omega) (by omega), Sat.num_id (3 * x.i) (by omega) h2]
  rw [e]
  unfold Sat.sub
  rw [Sat.num_id (3 * x.i) (by omega) h2, Sat.num_id x.o h0 (by omega), Sat.num_id _ (by omega) (by omega)]
theorem lft_valid {x : Lm} (hv : x.v = true) : lft x = 9007199254740991 := if_pos hv
theorem lft_bd (x : Lm) : 0 ≤ lft x ∧ lft x ≤ 9007199254740991 := by
  unfold lft
  split
  · decide
  · exact Sat.sub_bd _ _
theorem got_is {x : Lm} {n : Int} (h : sz n) (h0 : 0 ≤ x.i) (h1 : x.i + n ≤ 9007199254740991) : got x n = { x with i := x.i + n } := by
  unfold got; rw [if_pos h, add_small h0 h.1 h1]
theorem sent_is {x : Lm} {n : Int} (h : sentE x n = 0) (h0 : 0 ≤ x.o) (h1 : x.o + n ≤ 9007199254740991) : sent x n = { x with o := x.o + n } := by
  unfold sent; rw [if_pos h, add_small h0 (sentE_of h).1.1 h1]
theorem sent_no {x : Lm} {n : Int} (h : sentE x n ≠ 0) : sent x n = x := if_neg h
/-- P15.3: what is sent is at most thrice what was got. -/
structure Thrice (x : Lm) (g s m : Int) : Prop where
  i : x.i = g
  o : x.o = s
  v : x.v = false
  s0 : 0 ≤ s
  le : s ≤ 3 * g
  g1 : g ≤ 65536 * m
  m1 : m ≤ 100
theorem Thrice.lft {x : Lm} {g s m : Int} (h : Thrice x g s m) : lft x = 3 * g - s := by
  have h1 := h.g1; have h2 := h.m1; have h3 := h.le; have h4 := h.s0
  rw [lft_small h.v (by rw [h.o]; exact h4) (by rw [h.o, h.i]; exact h3) (by rw [h.i]; omega), h.i, h.o]
theorem Thrice.got {x : Lm} {g s m n : Int} (h : Thrice x g s m) (hn : sz n) (hm : m < 100) : Thrice (got x n) (g + n) s (m + 1) := by
  have h1 := h.g1; have h2 := h.m1; have h3 := h.le; have h4 := h.s0; have h5 := hn.1; have h6 := hn.2
  rw [got_is hn (by rw [h.i]; omega) (by rw [h.i]; omega)]
  exact ⟨by show x.i + n = _; rw [h.i], h.o, h.v, h4, by omega, by omega, by omega⟩
theorem Thrice.sent {x : Lm} {g s m n : Int} (h : Thrice x g s m) (hn : sz n) (hm : m < 100) (hs : s + n ≤ 3 * g) : sentE x n = 0 ∧ Thrice (sent x n) g (s + n) (m + 1) := by
  have h1 := h.g1; have h2 := h.m1; have h3 := h.le; have h4 := h.s0; have h5 := hn.1; have h6 := hn.2
  have e : sentE x n = 0 := sentE_is hn (by rw [h.lft]; omega)
  refine ⟨e, ?_⟩
  rw [sent_is e (by rw [h.o]; exact h4) (by rw [h.o]; omega)]
  exact ⟨h.i, by show x.o + n = _; rw [h.o], h.v, by omega, hs, by omega, by omega⟩
theorem Thrice.no {x : Lm} {g s m n : Int} (h : Thrice x g s m) (hn : sz n) (hm : m < 100) (hs : ¬ s + n ≤ 3 * g) : sentE x n = 212 ∧ AmpM.sent x n = x ∧ Thrice x g s (m + 1) := by
  have h1 := h.g1; have h2 := h.m1
  have e : sentE x n = 212 := by
    unfold sentE; rw [if_pos hn, if_pos (by rw [h.lft]; omega)]
  exact ⟨e, sent_no (by rw [e]; decide), ⟨h.i, h.o, h.v, h.s0, h.le, by omega, by omega⟩⟩
/-! The chapter's examples. -/
theorem ex : sentE (new false) 1 = 212 ∧ got (new false) 1200 = ⟨1200, 0, false⟩ ∧ lft ⟨1200, 0, false⟩ = 3600 ∧ sent ⟨1200, 0, false⟩ 3600 = ⟨1200, 3600, false⟩ ∧ sentE ⟨1200, 3600, false⟩ 1 = 212 ∧ gotE 65536 = 2 ∧ sent ⟨1200, 3600, true⟩ 65535 = ⟨1200, 69135, true⟩ := by
  refine ⟨by decide, by decide, by decide, by decide, by decide, by decide, by decide⟩
end Go.Proofs.Ytfacacieegfopaa.AmpM
