/-
  Plain mathematics of BucketBound: rows of what was taken and of what may come in.
-/
import Derived.Test.YtjpajmoceodadaaBucN
import Derived.Test.YtjpajmoceodadaaInts
namespace Go.Proofs.Ytjpajmoceodadaa.BucM
open Ints
set_option linter.unusedVariables false
set_option linter.unusedSimpArgs false

/-- What was taken in m rounds, from the i-th one on. -/
def took (L : List Int) (i : Nat) : Nat → Int
  | 0 => 0
  | m + 1 => took L i m + nt L (i + m)
/-- What may have come in, in m rounds from the i-th one on, behind it. -/
def came (L : List Int) (i : Nat) : Nat → Int
  | 0 => 0
  | m + 1 => if m = 0 then 0 else came L i m + nt L (i + m) + 1
theorem took_app {L : List Int} {i : Nat} (x : Int) : ∀ m, i + m ≤ L.length → took (L ++ [x]) i m = took L i m := by
  intro m
  induction m with
  | zero => intro _; rfl
  | succ m ih =>
    intro h
    show took (L ++ [x]) i m + nt (L ++ [x]) (i + m) = took L i m + nt L (i + m)
    rw [ih (by omega), nt_left (by omega)]
theorem came_app {L : List Int} {i : Nat} (x : Int) : ∀ m, i + m ≤ L.length → came (L ++ [x]) i m = came L i m := by
  intro m
  induction m with
  | zero => intro _; rfl
  | succ m ih =>
    intro h
    show (if m = 0 then 0 else came (L ++ [x]) i m + nt (L ++ [x]) (i + m) + 1) = (if m = 0 then 0 else came L i m + nt L (i + m) + 1)
    rw [ih (by omega), nt_left (by omega)]
/-- What is known of both rows. -/
structure Inv (X : Bk) (L1 L2 : List Int) (j : Nat) : Prop where
  l1 : L1.length = j
  l2 : L2.length = j
  b1 : ∀ k, k < j → 0 ≤ nt L1 k ∧ nt L1 k ≤ 1073741824
  b2 : ∀ k, k < j → 0 ≤ nt L2 k ∧ nt L2 k ≤ 9007199254740991
  good : ∀ i m, i + m ≤ j → took L1 i m ≤ X.b + came L2 i m
  since : ∀ i, i < j → Since X (took L1 i (j - i)) (came L2 i (j - i))
theorem Inv.start {X : Bk} (h : Ok X) : Inv X [] [] 0 where
  l1 := rfl
  l2 := rfl
  b1 := fun k hk => by omega
  b2 := fun k hk => by omega
  good := fun i m hm => by
    have e : m = 0 := by omega
    subst e
    show (0 : Int) ≤ X.b + 0
    have := h.b0; omega
  since := fun i hi => by omega
theorem Inv.next {X : Bk} {L1 L2 : List Int} {j : Nat} (v : Inv X L1 L2 j) (h : Ok X) {t p q k e : Int} (ht : X.t ≤ t) (ht1 : t ≤ 9007199254740991) (hm : may p q) (k0 : 0 ≤ k) (k1 : k ≤ (fill X t p q).n) (he : e = ((t - X.t) * p + q - 1) / q) (e0 : 0 ≤ e) (e1 : e ≤ 9007199254740991) :
    Inv ⟨(fill X t p q).b, (fill X t p q).n - k, (fill X t p q).l, (fill X t p q).t, (fill X t p q).p, (fill X t p q).q⟩ (L1 ++ [k]) (L2 ++ [e]) (j + 1) := by
  have o1 := fill_ok h ht ht1 hm
  have hb : (fill X t p q).b = X.b := fill_b _ _ _ _
  have hl1 := v.l1
  have hl2 := v.l2
  have hsin : ∀ i, i < j + 1 → Since ⟨(fill X t p q).b, (fill X t p q).n - k, (fill X t p q).l, (fill X t p q).t, (fill X t p q).p, (fill X t p q).q⟩ (took (L1 ++ [k]) i (j + 1 - i)) (came (L2 ++ [e]) i (j + 1 - i)) := by
    intro i hi
    by_cases hij : i = j
    · subst hij
      have s := Since.new o1 k
      rw [show i + 1 - i = 0 + 1 by omega]
      have h1 : took (L1 ++ [k]) i (0 + 1) = k := by
        show 0 + nt (L1 ++ [k]) (i + 0) = k
        rw [Nat.add_zero, ← hl1, nt_last]; omega
      rw [h1]
      exact s
    · have s := ((v.since i (by omega)).fill h ht hm).take k
      rw [show j + 1 - i = (j - i) + 1 by omega]
      have h1 : took (L1 ++ [k]) i ((j - i) + 1) = took L1 i (j - i) + k := by
        show took (L1 ++ [k]) i (j - i) + nt (L1 ++ [k]) (i + (j - i)) = _
        rw [took_app k _ (by omega), show i + (j - i) = L1.length by omega, nt_last]
      have h2 : came (L2 ++ [e]) i ((j - i) + 1) = came L2 i (j - i) + (((t - X.t) * p + q - 1) / q + 1) := by
        show (if j - i = 0 then 0 else came (L2 ++ [e]) i (j - i) + nt (L2 ++ [e]) (i + (j - i)) + 1) = _
        rw [if_neg (by omega), came_app e _ (by omega), show i + (j - i) = L2.length by omega, nt_last, he]
        omega
      rw [h1, h2]
      exact s
  have o2 : Ok ⟨(fill X t p q).b, (fill X t p q).n - k, (fill X t p q).l, (fill X t p q).t, (fill X t p q).p, (fill X t p q).q⟩ :=
    ⟨o1.b0, o1.b1, by show 0 ≤ (fill X t p q).n - k; omega, by show (fill X t p q).n - k ≤ (fill X t p q).b; have := o1.n1; omega, o1.l0, o1.l1, o1.q1, o1.t⟩
  have hn1 := o1.n1
  have hb1 := o1.b1
  refine ⟨by simp [hl1], by simp [hl2], ?_, ?_, ?_, hsin⟩
  · intro x hx
    by_cases e' : x = j
    · subst e'
      rw [← hl1, nt_last]
      omega
    · rw [nt_left (by omega)]; exact v.b1 x (by omega)
  · intro x hx
    by_cases e' : x = j
    · subst e'
      rw [← hl2, nt_last]
      exact ⟨e0, e1⟩
    · rw [nt_left (by omega)]; exact v.b2 x (by omega)
  · intro i m hm
    show took (L1 ++ [k]) i m ≤ (fill X t p q).b + came (L2 ++ [e]) i m
    by_cases hj : i + m = j + 1
    · rcases Nat.eq_zero_or_pos m with h0 | h0
      · subst h0
        show (0 : Int) ≤ (fill X t p q).b + 0
        have := o1.b0; omega
      · have s := (hsin i (by omega)).bound o2
        rw [show j + 1 - i = m by omega] at s
        exact s
    · rw [took_app k m (by omega), came_app e m (by omega), hb]
      exact v.good i m (by omega)
theorem took_bd {X : Bk} {L1 L2 : List Int} {j : Nat} (v : Inv X L1 L2 j) (i : Nat) : ∀ m, i + m ≤ j → 0 ≤ took L1 i m ∧ took L1 i m ≤ 1073741824 * (m : Int) := by
  intro m
  induction m with
  | zero => intro _; exact ⟨Int.le_refl _, by show (0 : Int) ≤ _; omega⟩
  | succ m ih =>
    intro h
    have h1 := ih (by omega)
    have h2 := v.b1 (i + m) (by omega)
    show 0 ≤ took L1 i m + nt L1 (i + m) ∧ took L1 i m + nt L1 (i + m) ≤ _
    omega
theorem came_bd {X : Bk} {L1 L2 : List Int} {j : Nat} (v : Inv X L1 L2 j) (i : Nat) : ∀ m, i + m ≤ j → 0 ≤ came L2 i m ∧ came L2 i m ≤ 9007199254740992 * (m : Int) := by
  intro m
  induction m with
  | zero => intro _; exact ⟨Int.le_refl _, by show (0 : Int) ≤ _; omega⟩
  | succ m ih =>
    intro h
    have h1 := ih (by omega)
    have h2 := v.b2 (i + m) (by omega)
    show 0 ≤ (if m = 0 then 0 else came L2 i m + nt L2 (i + m) + 1) ∧ (if m = 0 then 0 else came L2 i m + nt L2 (i + m) + 1) ≤ _
    split <;> omega
end Go.Proofs.Ytjpajmoceodadaa.BucM
