/-
  Plain mathematics of persistent congestion: pairs of lost packets, the period, what it is of rising times, of more packets, of more that was acknowledged. Nothing here speaks of a program.
-/
import Derived.Test.YtdfjceghhjecaaaLosM
namespace Go.Proofs.Ytdfjceghhjecaaa.PerM
open Cd SntM LosM
set_option linter.unusedSimpArgs false
set_option linter.unusedVariables false

/-- Was no number between two others acknowledged? -/
def freeB (S : Int → Bool) (a b : Int) : Bool := (List.range (b - a - 1).toNat).all fun j => !S (a + 1 + (j : Int))
theorem freeB_iff (S : Int → Bool) (a b : Int) : freeB S a b = true ↔ ∀ n, a < n → n < b → S n = false := by
  unfold freeB
  rw [List.all_eq_true]
  constructor
  · intro h n h1 h2
    have := h (n - a - 1).toNat (List.mem_range.2 (by omega))
    rw [show a + 1 + ((n - a - 1).toNat : Int) = n by omega] at this
    simpa using this
  · intro h j hj
    have hj := List.mem_range.1 hj
    rw [h (a + 1 + (j : Int)) (by omega) (by omega)]
    rfl
theorem freeB_less {S : Int → Bool} {a b c : Int} (h : freeB S a c = true) (hbc : b ≤ c) : freeB S a b = true := by
  rw [freeB_iff] at *
  intro n h1 h2
  exact h n h1 (by omega)
theorem freeB_none (a b : Int) : freeB (fun _ => false) a b = true := by rw [freeB_iff]; intros; rfl
theorem freeB_more {S T : Int → Bool} (hST : ∀ n, S n = true → T n = true) {a b : Int} (h : freeB T a b = true) : freeB S a b = true := by
  rw [freeB_iff] at *
  intro n h1 h2
  have := h n h1 h2
  cases hs : S n with
  | false => rfl
  | true => rw [hST n hs] at this; cases this

/-- Does a packet count? -/
def cntB (first : Int) (x : Pk) : Bool := x.e && decide (first < x.t)
/-- Are two lost packets a pair? -/
def pairB (S : Int → Bool) (first : Int) (x y : Pk) : Bool := cntB first x && (cntB first y && (decide (x.t ≤ y.t) && freeB S x.n y.n))
theorem pairB_iff (S : Int → Bool) (first : Int) (x y : Pk) : pairB S first x y = true ↔ x.e = true ∧ first < x.t ∧ y.e = true ∧ first < y.t ∧ x.t ≤ y.t ∧ freeB S x.n y.n = true := by
  unfold pairB cntB
  simp only [Bool.and_eq_true, decide_eq_true_eq]
  constructor
  · rintro ⟨⟨a, b⟩, ⟨c, d⟩, e, f⟩; exact ⟨a, b, c, d, e, f⟩
  · rintro ⟨a, b, c, d, e, f⟩; exact ⟨⟨a, b⟩, ⟨c, d⟩, e, f⟩
theorem pairB_out {S : Int → Bool} {first : Int} {x : Pk} (h : cntB first x = false) (y : Pk) : pairB S first x y = false := by unfold pairB; rw [h]; rfl

/-- The best pair so far: its period, its first number, its second one. -/
abbrev St := Option (Int × Int × Int)
def better (s : St) (x y : Pk) : St := match s with
  | none => some (y.t - x.t, x.n, y.n)
  | some p => if p.1 < y.t - x.t then some (y.t - x.t, x.n, y.n) else some p
def tryP (S : Int → Bool) (first : Int) (x : Pk) (s : St) (y : Pk) : St := if pairB S first x y = true then better s x y else s
def inner (S : Int → Bool) (first : Int) (x : Pk) (s : St) (l : List Pk) : St := l.foldl (tryP S first x) s
def outer (S : Int → Bool) (first : Int) : St → List Pk → St
  | s, [] => s
  | s, x :: t => outer S first (inner S first x s t) t
def per (S : Int → Bool) (first : Int) (l : List Pk) : St := outer S first none l
theorem tryP_yes {S : Int → Bool} {first : Int} {x y : Pk} (h : pairB S first x y = true) (s : St) : tryP S first x s y = better s x y := if_pos h
theorem tryP_no {S : Int → Bool} {first : Int} {x y : Pk} (h : pairB S first x y = false) (s : St) : tryP S first x s y = s := if_neg (by rw [h]; decide)
theorem inner_nil (S : Int → Bool) (first : Int) (x : Pk) (s : St) : inner S first x s [] = s := rfl
theorem inner_cons (S : Int → Bool) (first : Int) (x : Pk) (s : St) (y : Pk) (l : List Pk) : inner S first x s (y :: l) = inner S first x (tryP S first x s y) l := rfl
theorem inner_snoc (S : Int → Bool) (first : Int) (x : Pk) (s : St) (l : List Pk) (y : Pk) : inner S first x s (l ++ [y]) = tryP S first x (inner S first x s l) y := by unfold inner; rw [List.foldl_append]; rfl
theorem inner_out {S : Int → Bool} {first : Int} {x : Pk} {l : List Pk} (h : ∀ y ∈ l, pairB S first x y = false) (s : St) : inner S first x s l = s := by
  induction l generalizing s with
  | nil => rfl
  | cons y l ih => rw [inner_cons, tryP_no (h y (by simp))]; exact ih (fun z hz => h z (by simp [hz])) s
/-- The state behind the packets ahead of a place: that of all pairs whose first packet is there. -/
def ahead (S : Int → Bool) (first : Int) (l : List Pk) : Nat → St
  | 0 => none
  | i + 1 => inner S first (at_ l i) (ahead S first l i) (l.drop (i + 1))
theorem outer_drop (S : Int → Bool) (first : Int) (l : List Pk) : ∀ (k i : Nat), i + k = l.length → outer S first (ahead S first l i) (l.drop i) = ahead S first l l.length := by
  intro k
  induction k with
  | zero =>
    intro i h
    obtain rfl : i = l.length := by omega
    rw [List.drop_length]; rfl
  | succ k ih =>
    intro i h
    have hi : i < l.length := by omega
    rw [← List.getElem_cons_drop hi]
    show outer S first (inner S first l[i] (ahead S first l i) (l.drop (i + 1))) (l.drop (i + 1)) = _
    rw [← at_of hi]
    exact ih (i + 1) (by omega)
theorem per_ahead (S : Int → Bool) (first : Int) (l : List Pk) : per S first l = ahead S first l l.length := outer_drop S first l l.length 0 (by omega)

/-! What the period is: the greatest one of all pairs. -/
/-- What is known of pairs P. -/
def Best (P : Pk → Pk → Prop) (s : St) : Prop := match s with
  | none => ∀ x y, ¬ P x y
  | some p => (∃ x y, P x y ∧ p = (y.t - x.t, x.n, y.n)) ∧ ∀ x y, P x y → y.t - x.t ≤ p.1
theorem best_try {P Q : Pk → Pk → Prop} {S : Int → Bool} {first : Int} {x y : Pk} {s : St} (h : Best P s) (hQ : ∀ u v, Q u v ↔ P u v ∨ (u = x ∧ v = y ∧ pairB S first x y = true)) : Best Q (tryP S first x s y) := by
  by_cases hp : pairB S first x y = true
  · rw [tryP_yes hp]
    have hxy : Q x y := (hQ x y).2 (.inr ⟨rfl, rfl, hp⟩)
    cases s with
    | none =>
      refine ⟨⟨x, y, hxy, rfl⟩, fun u v huv => ?_⟩
      rcases (hQ u v).1 huv with h1 | ⟨rfl, rfl, _⟩
      · exact absurd h1 (h u v)
      · exact Int.le_refl _
    | some p =>
      obtain ⟨⟨a, b, hab, he⟩, hall⟩ := h
      show Best Q (if p.1 < y.t - x.t then some (y.t - x.t, x.n, y.n) else some p)
      by_cases hlt : p.1 < y.t - x.t
      · rw [if_pos hlt]
        refine ⟨⟨x, y, hxy, rfl⟩, fun u v huv => ?_⟩
        rcases (hQ u v).1 huv with h1 | ⟨rfl, rfl, _⟩
        · have := hall u v h1; simp only; omega
        · exact Int.le_refl _
      · rw [if_neg hlt]
        refine ⟨⟨a, b, (hQ a b).2 (.inl hab), he⟩, fun u v huv => ?_⟩
        rcases (hQ u v).1 huv with h1 | ⟨rfl, rfl, _⟩
        · exact hall u v h1
        · omega
  · have hf : pairB S first x y = false := by simpa using hp
    rw [tryP_no hf]
    have e : Q = P := by
      funext u v
      apply propext
      rw [hQ]
      constructor
      · rintro (h1 | ⟨_, _, h2⟩)
        · exact h1
        · exact absurd h2 hp
      · exact .inl
    rw [e]; exact h
theorem best_inner {S : Int → Bool} {first : Int} {x : Pk} : ∀ (l : List Pk) {P Q : Pk → Pk → Prop} {s : St}, Best P s → (∀ u v, Q u v ↔ P u v ∨ (u = x ∧ v ∈ l ∧ pairB S first x v = true)) → Best Q (inner S first x s l) := by
  intro l
  induction l with
  | nil =>
    intro P Q s h hQ
    have e : Q = P := by funext u v; apply propext; rw [hQ]; simp
    rw [e]; exact h
  | cons y l ih =>
    intro P Q s h hQ
    rw [inner_cons]
    refine ih (best_try (Q := fun u v => P u v ∨ (u = x ∧ v = y ∧ pairB S first x y = true)) h (fun u v => Iff.rfl)) (fun u v => ?_)
    rw [hQ]
    constructor
    · rintro (h1 | ⟨rfl, h2, h3⟩)
      · exact .inl (.inl h1)
      · rcases List.mem_cons.1 h2 with rfl | h2
        · exact .inl (.inr ⟨rfl, rfl, h3⟩)
        · exact .inr ⟨rfl, h2, h3⟩
    · rintro ((h1 | ⟨rfl, rfl, h3⟩) | ⟨rfl, h2, h3⟩)
      · exact .inl h1
      · exact .inr ⟨rfl, List.mem_cons_self, h3⟩
      · exact .inr ⟨rfl, List.mem_cons_of_mem _ h2, h3⟩
/-- The pairs of a list. -/
def Pairs (S : Int → Bool) (first : Int) : List Pk → Pk → Pk → Prop
  | [], _, _ => False
  | x :: t, u, v => (u = x ∧ v ∈ t ∧ pairB S first x v = true) ∨ Pairs S first t u v
theorem best_outer {S : Int → Bool} {first : Int} : ∀ (l : List Pk) {P : Pk → Pk → Prop} {s : St}, Best P s → Best (fun u v => P u v ∨ Pairs S first l u v) (outer S first s l) := by
  intro l
  induction l with
  | nil =>
    intro P s h
    have e : (fun u v => P u v ∨ Pairs S first [] u v) = P := by funext u v; apply propext; simp [Pairs]
    rw [e]; exact h
  | cons x t ih =>
    intro P s h
    have h1 := ih (best_inner (S := S) (first := first) (x := x) t (Q := fun u v => P u v ∨ (u = x ∧ v ∈ t ∧ pairB S first x v = true)) h (fun u v => Iff.rfl))
    have e : (fun u v => P u v ∨ Pairs S first (x :: t) u v) = (fun u v => (P u v ∨ (u = x ∧ v ∈ t ∧ pairB S first x v = true)) ∨ Pairs S first t u v) := by
      funext u v; apply propext; simp only [Pairs]; rw [or_assoc]
    rw [e]; exact h1
theorem per_best (S : Int → Bool) (first : Int) (l : List Pk) : Best (Pairs S first l) (per S first l) := by
  have h := best_outer (S := S) (first := first) l (P := fun _ _ => False) (s := none) (fun x y h => h)
  have e : (fun u v => False ∨ Pairs S first l u v) = Pairs S first l := by funext u v; simp
  rw [e] at h; exact h
theorem pairs_pair {S : Int → Bool} {first : Int} : ∀ {l : List Pk} {u v : Pk}, Pairs S first l u v → u ∈ l ∧ v ∈ l ∧ pairB S first u v = true := by
  intro l
  induction l with
  | nil => intro u v h; cases h
  | cons x t ih =>
    intro u v h
    rcases h with ⟨rfl, h1, h2⟩ | h
    · exact ⟨List.mem_cons_self, List.mem_cons_of_mem _ h1, h2⟩
    · have := ih h; exact ⟨List.mem_cons_of_mem _ this.1, List.mem_cons_of_mem _ this.2.1, this.2.2⟩

/-! P10.4. -/
/-- The period, where there is one. -/
def Le (s t : St) : Prop := match s, t with
  | none, _ => True
  | some _, none => False
  | some p, some q => p.1 ≤ q.1
theorem best_le {P Q : Pk → Pk → Prop} {s t : St} (h : Best P s) (k : Best Q t) (hPQ : ∀ u v, P u v → Q u v) : Le s t := by
  cases s with
  | none => trivial
  | some p =>
    obtain ⟨⟨x, y, hxy, he⟩, _⟩ := h
    cases t with
    | none => exact k x y (hPQ x y hxy)
    | some q =>
      have := k.2 x y (hPQ x y hxy)
      show p.1 ≤ q.1
      rw [he]; exact this
theorem pairs_more {S T : Int → Bool} {first : Int} (hST : ∀ n, S n = true → T n = true) : ∀ {l : List Pk} {u v : Pk}, Pairs T first l u v → Pairs S first l u v := by
  intro l
  induction l with
  | nil => intro u v h; exact h
  | cons x t ih =>
    intro u v h
    rcases h with ⟨rfl, h1, h2⟩ | h
    · refine .inl ⟨rfl, h1, ?_⟩
      rw [pairB_iff] at *
      exact ⟨h2.1, h2.2.1, h2.2.2.1, h2.2.2.2.1, h2.2.2.2.2.1, freeB_more hST h2.2.2.2.2.2⟩
    · exact .inr (ih h)
theorem pairs_take {S : Int → Bool} {first : Int} : ∀ {l : List Pk} {k : Nat} {u v : Pk}, Pairs S first (l.take k) u v → Pairs S first l u v := by
  intro l
  induction l with
  | nil => intro k u v h; simpa using h
  | cons x t ih =>
    intro k u v h
    cases k with
    | zero => cases h
    | succ k =>
      rcases h with ⟨rfl, h1, h2⟩ | h
      · exact .inl ⟨rfl, List.mem_of_mem_take h1, h2⟩
      · exact .inr (ih h)
theorem per_more (S : Int → Bool) (first : Int) (l : List Pk) (k : Nat) : Le (per S first (l.take k)) (per S first l) := best_le (per_best S first _) (per_best S first _) (fun u v h => pairs_take h)
theorem per_acked {S T : Int → Bool} (hST : ∀ n, S n = true → T n = true) (first : Int) (l : List Pk) : Le (per T first l) (per S first l) := best_le (per_best T first _) (per_best S first _) (fun u v h => pairs_more hST h)
/-- What was not to be acknowledged does not count. -/
theorem inner_quiet (S : Int → Bool) (first : Int) (x : Pk) (l : List Pk) : ∀ s, inner S first x s (l.filter (fun p => p.e)) = inner S first x s l := by
  induction l with
  | nil => intro s; rfl
  | cons y l ih =>
    intro s
    rw [List.filter_cons]
    cases h : y.e with
    | true => simp only [if_true]; rw [inner_cons, inner_cons]; exact ih _
    | false =>
      have hp : pairB S first x y = false := by
        cases hb : pairB S first x y with
        | false => rfl
        | true => have := ((pairB_iff S first x y).1 hb).2.2.1; rw [h] at this; cases this
      simp only [Bool.false_eq_true, if_false]
      rw [inner_cons, tryP_no hp]; exact ih _
theorem outer_quiet (S : Int → Bool) (first : Int) (l : List Pk) : ∀ s, outer S first s (l.filter (fun p => p.e)) = outer S first s l := by
  induction l with
  | nil => intro s; rfl
  | cons x l ih =>
    intro s
    rw [List.filter_cons]
    cases h : x.e with
    | true =>
      simp only [if_true]
      show outer S first (inner S first x s (l.filter (fun p => p.e))) (l.filter (fun p => p.e)) = outer S first (inner S first x s l) l
      rw [inner_quiet]; exact ih _
    | false =>
      simp only [Bool.false_eq_true, if_false]
      show outer S first s (l.filter (fun p => p.e)) = outer S first (inner S first x s l) l
      rw [inner_out (fun y _ => pairB_out (by unfold cntB; rw [h]; rfl) y)]; exact ih _
theorem per_quiet (S : Int → Bool) (first : Int) (l : List Pk) : per S first (l.filter (fun p => p.e)) = per S first l := outer_quiet S first l none

/-! P10.5: of rising times. -/
/-- What the law finds: the last one that can be come to, the first one of that time. -/
def lastOf (S : Int → Bool) (x : Pk) : Option Pk → List Pk → Option Pk
  | m, [] => m
  | m, y :: t => if freeB S x.n y.n = true then lastOf S x (if y.e = true then (match m with | none => some y | some z => if z.t < y.t then some y else some z) else m) t else m
def upd (s : St) (x : Pk) (m : Option Pk) : St := match m with | none => s | some y => better s x y
theorem better_up {s : St} {x y z : Pk} (h : z.t < y.t) : better (better s x z) x y = better s x y := by
  cases s with
  | none => unfold better; simp only; rw [if_pos (by omega)]
  | some p =>
    unfold better
    by_cases h1 : p.1 < z.t - x.t
    · simp only [h1, if_true]
      rw [if_pos (by omega), if_pos (by omega)]
    · simp only [h1, if_false]
theorem better_same {s : St} {x y z : Pk} (h : ¬ z.t < y.t) : better (better s x z) x y = better s x z := by
  cases s with
  | none => unfold better; simp only; rw [if_neg (by omega)]
  | some p =>
    unfold better
    by_cases h1 : p.1 < z.t - x.t
    · simp only [h1, if_true]
      rw [if_neg (by omega)]
    · simp only [h1, if_false]
      rw [if_neg (by omega)]
theorem inner_last {S : Int → Bool} {first : Int} {x : Pk} (hx : x.e = true) (hf : first < x.t) (s : St) : ∀ (l : List Pk) (m : Option Pk), (∀ y ∈ l, x.t ≤ y.t) → l.Pairwise (fun a b => a.n < b.n) → inner S first x (upd s x m) l = upd s x (lastOf S x m l) := by
  intro l
  induction l with
  | nil => intro m _ _; rfl
  | cons y l ih =>
    intro m ht hr
    have hy := ht y (by simp)
    have hr' := List.pairwise_cons.1 hr
    have ih' := fun m => ih m (fun z hz => ht z (by simp [hz])) hr'.2
    by_cases hfree : freeB S x.n y.n = true
    · rw [inner_cons]
      have e : lastOf S x m (y :: l) = lastOf S x (if y.e = true then (match m with | none => some y | some z => if z.t < y.t then some y else some z) else m) l := by
        conv => lhs; unfold lastOf
        rw [if_pos hfree]
      rw [e]
      cases hye : y.e with
      | true =>
        have hp : pairB S first x y = true := (pairB_iff S first x y).2 ⟨hx, hf, hye, by omega, hy, hfree⟩
        rw [tryP_yes hp]
        simp only [if_true]
        cases m with
        | none => exact ih' (some y)
        | some z =>
          simp only
          by_cases hz : z.t < y.t
          · rw [if_pos hz, ← ih' (some y)]
            show inner S first x (better (better s x z) x y) l = inner S first x (better s x y) l
            rw [better_up hz]
          · rw [if_neg hz, ← ih' (some z)]
            show inner S first x (better (better s x z) x y) l = inner S first x (better s x z) l
            rw [better_same hz]
      | false =>
        have hp : pairB S first x y = false := by
          cases hb : pairB S first x y with
          | false => rfl
          | true => have := ((pairB_iff S first x y).1 hb).2.2.1; rw [hye] at this; cases this
        rw [tryP_no hp]
        simp only [Bool.false_eq_true, if_false]
        exact ih' m
    · have e : lastOf S x m (y :: l) = m := by
        conv => lhs; unfold lastOf
        rw [if_neg hfree]
      rw [e]
      apply inner_out
      intro z hz
      cases hb : pairB S first x z with
      | false => rfl
      | true =>
        have h1 := ((pairB_iff S first x z).1 hb).2.2.2.2.2
        have h2 : y.n ≤ z.n := by
          rcases List.mem_cons.1 hz with rfl | hz
          · exact Int.le_refl _
          · have := hr'.1 z hz; omega
        exact absurd (freeB_less h1 h2) hfree
/-- The same, from the beginning. -/
theorem inner_run {S : Int → Bool} {first : Int} {x : Pk} (s : St) {l : List Pk} (ht : ∀ y ∈ l, x.t ≤ y.t) (hr : l.Pairwise (fun a b => a.n < b.n)) : inner S first x s l = if cntB first x = true then upd s x (lastOf S x none l) else s := by
  by_cases h : cntB first x = true
  · rw [if_pos h]
    unfold cntB at h
    simp only [Bool.and_eq_true, decide_eq_true_eq] at h
    exact inner_last h.1 h.2 s l none ht hr
  · rw [if_neg h]
    exact inner_out (fun y _ => pairB_out (by simpa using h) y) s

end Go.Proofs.Ytdfjceghhjecaaa.PerM
