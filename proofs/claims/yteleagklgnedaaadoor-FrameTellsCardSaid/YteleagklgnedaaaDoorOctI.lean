/-
  Contract of octet's Strict: what it returns of every bytes; the world stays as it was.
-/
import Derived.Test.YteleagklgnedaaaDoorOctH
namespace Go.Proofs.YteleagklgnedaaaDoor.Oct
open Go.RowKit OctM
set_option linter.unusedSimpArgs false
set_option linter.unusedVariables false

/-- Is the front a number in as few bytes as may be? -/
def front (l : List Int) : Bool := decide (derr l = 0) && decide (dlen l = size (dnum l))
def strictF : Nat → List Int → Bool
  | 0, l => l.isEmpty
  | k + 1, l => l.isEmpty || (front l && strictF k (l.drop (dlen l).toNat))
def strict (l : List Int) : Bool := strictF l.length l

set_option maxRecDepth 100000 in
theorem strictF_nil (k : Nat) : strictF k [] = true := by cases k <;> rfl
set_option maxRecDepth 100000 in
theorem strict_nil : strict [] = true := rfl
set_option maxRecDepth 100000 in
theorem strictF_more : ∀ (k m : Nat) (l : List Int), l.length ≤ k → l.length ≤ m → strictF k l = strictF m l := by
  intro k
  induction k with
  | zero => intro m l hk _; have : l = [] := List.eq_nil_of_length_eq_zero (by omega); subst this; rw [strictF_nil, strictF_nil]
  | succ k ih =>
    intro m l hk hm
    cases m with
    | zero => have : l = [] := List.eq_nil_of_length_eq_zero (by omega); subst this; rw [strictF_nil, strictF_nil]
    | succ m =>
      unfold strictF
      cases hl : l.isEmpty
      · simp only [Bool.false_or]
        cases hf : front l
        · rfl
        · have he : derr l = 0 := by unfold front at hf; simp at hf; exact hf.1
          have hp := dlen_pos l he
          simp only [Bool.true_and]
          exact ih m _ (by rw [List.length_drop]; omega) (by rw [List.length_drop]; omega)
      · rfl
set_option maxRecDepth 100000 in
theorem strict_step (l : List Int) (h : 0 < l.length) (hf : front l = true) : strict l = strict (l.drop (dlen l).toNat) := by
  have he : derr l = 0 := by unfold front at hf; simp at hf; exact hf.1
  have hp := dlen_pos l he
  obtain ⟨k, hk⟩ : ∃ k, l.length = k + 1 := ⟨l.length - 1, by omega⟩
  have hl : l.isEmpty = false := by cases l <;> simp_all
  show strictF l.length l = _
  rw [hk]
  unfold strictF
  rw [hl, hf]
  simp only [Bool.false_or, Bool.true_and]
  exact strictF_more _ _ _ (by rw [List.length_drop]; omega) (Nat.le_refl _)
set_option maxRecDepth 100000 in
theorem strict_not (l : List Int) (h : 0 < l.length) (hf : front l = false) : strict l = false := by
  obtain ⟨k, hk⟩ : ∃ k, l.length = k + 1 := ⟨l.length - 1, by omega⟩
  have hl : l.isEmpty = false := by cases l <;> simp_all
  show strictF l.length l = _
  rw [hk]
  unfold strictF
  rw [hl, hf]; rfl
set_option maxRecDepth 100000 in
theorem front_err (l : List Int) (h : derr l ≠ 0) : front l = false := by simp [front, h]
set_option maxRecDepth 100000 in
theorem front_len (l : List Int) (h : dlen l ≠ size (dnum l)) : front l = false := by simp [front, h]
set_option maxRecDepth 100000 in
theorem front_ok (l : List Int) (h : derr l = 0) (h1 : dlen l = size (dnum l)) : front l = true := by simp [front, h, h1]

def lenV : Value → Nat | .slice _ n _ => n | _ => 0
def StrictRel (l : List Int) (w : World) (v : Value) : Prop := ∃ A n c l', v = .slice A n c ∧ Byt w A n c l' ∧ strict l' = strict l

end Go.Proofs.YteleagklgnedaaaDoor.Oct
