/-
  Plain mathematics of the program's way to the period: how far one gets from a number without passing one that was acknowledged; the pairs that are handed over, one after the other; the best one of them is the period. Nothing here speaks of a program.
-/
import Derived.Test.YtdfjceghhjecaaaPerS
namespace Go.Proofs.Ytdfjceghhjecaaa.PerM
open Cd SntM LosM
open SpnM (R Rises has)
set_option linter.unusedSimpArgs false
set_option linter.unusedVariables false

/-- The greatest number that one gets to. -/
def reachL (n : Int) : Int → List R → Int
  | last, [] => last
  | last, r :: t => if r.2 ≤ n then last else reachL n (max r.1 (n + 1)) t
def reach (rs : List R) (n : Int) : Int := reachL n 9007199254740991 rs
/-- Ranges fall. -/
def Falls (l : List R) : Prop := (∀ r ∈ l, r.1 ≤ r.2) ∧ l.Pairwise (fun r s => s.2 < r.1)
theorem falls_rev {l : List R} (h : Rises l) : Falls l.reverse := by
  refine ⟨fun r hr => (h.1 r (by simpa using hr)).2.1, ?_⟩
  rw [List.pairwise_reverse]
  exact h.2.imp (fun {a b} h => by omega)
theorem reachL_le (n y : Int) : ∀ (rs : List R) (last : Int), Falls rs → (∀ r ∈ rs, max r.1 (n + 1) ≤ last) → (y ≤ reachL n last rs ↔ y ≤ last ∧ ∀ r ∈ rs, n < r.2 → y ≤ max r.1 (n + 1)) := by
  intro rs
  induction rs with
  | nil => intro last _ _; simp [reachL]
  | cons r t ih =>
    intro last hf hb
    have hp := List.pairwise_cons.1 hf.2
    have hr := hf.1 r (by simp)
    have hl := hb r (by simp)
    unfold reachL
    by_cases h : r.2 ≤ n
    · rw [if_pos h]
      constructor
      · intro hy
        refine ⟨hy, fun s hs hn => ?_⟩
        rcases List.mem_cons.1 hs with rfl | hs
        · omega
        · have := hp.1 s hs; omega
      · exact fun hy => hy.1
    · rw [if_neg h, ih (max r.1 (n + 1)) ⟨fun s hs => hf.1 s (by simp [hs]), hp.2⟩ (fun s hs => by have := hp.1 s hs; have := hf.1 s (by simp [hs]); omega)]
      constructor
      · rintro ⟨h1, h2⟩
        refine ⟨by omega, fun s hs hn => ?_⟩
        rcases List.mem_cons.1 hs with rfl | hs
        · exact h1
        · exact h2 s hs hn
      · rintro ⟨h1, h2⟩
        exact ⟨h2 r (by simp) (by omega), fun s hs hn => h2 s (by simp [hs]) hn⟩
theorem reach_free {L : List R} (hL : Rises L) {n y : Int} (hn : n < 9007199254740991) (hy : y ≤ 9007199254740991) : freeB (has L) n y = decide (y ≤ reach L.reverse n) := by
  rw [free_has L n y (fun r hr => (hL.1 r hr).2.1), Bool.eq_iff_iff]
  unfold reach
  rw [decide_eq_true_iff, reachL_le n y L.reverse 9007199254740991 (falls_rev hL) (fun r hr => by
    have := hL.1 r (by simpa using hr); unfold SpnM.M at this; omega)]
  constructor
  · intro h
    refine ⟨hy, fun r hr hn => ?_⟩
    have hr' : r ∈ L := by simpa using hr
    have h1 := hL.1 r hr'
    cases hm : L.any (meets n y) with
    | true => rw [hm] at h; cases h
    | false =>
      have h2 : meets n y r = false := by
        rw [List.any_eq_false] at hm
        have := hm r hr'; simpa using this
      unfold meets at h2
      have h2 := of_decide_eq_false h2
      omega
  · rintro ⟨_, h⟩
    cases hm : L.any (meets n y) with
    | false => rfl
    | true =>
      obtain ⟨r, hr, hd⟩ := List.any_eq_true.1 hm
      unfold meets at hd
      have hd := of_decide_eq_true hd
      have := h r (by simpa using hr) (by omega)
      omega

/-- The pairs with a first packet, up to a number. -/
def innerL (x : Pk) (last : Int) : List Pk → List (Pk × Pk)
  | [] => []
  | y :: t => if last < y.n then [] else if x.t ≤ y.t then (x, y) :: innerL x last t else innerL x last t
/-- All pairs, in their order. -/
def pairsL (rs : List R) : List Pk → List (Pk × Pk)
  | [] => []
  | x :: t => innerL x (reach rs x.n) t ++ pairsL rs t
def betterP (s : St) (p : Pk × Pk) : St := better s p.1 p.2
/-- The best one of some pairs. -/
def foldB (ps : List (Pk × Pk)) : St := ps.foldl betterP none
theorem foldB_snoc (ps : List (Pk × Pk)) (p : Pk × Pk) : foldB (ps ++ [p]) = better (foldB ps) p.1 p.2 := by unfold foldB; rw [List.foldl_append]; rfl
theorem inner_fold {L : List R} (hL : Rises L) {first : Int} {x : Pk} (hx : cntB first x = true) (hxn : x.n < 9007199254740991) : ∀ (l : List Pk) (s : St), l.Pairwise (fun a b => a.n < b.n) → (∀ y ∈ l, y.n ≤ 9007199254740991) →
    (innerL x (reach L.reverse x.n) (l.filter (cntB first))).foldl betterP s = inner (has L) first x s l := by
  intro l
  induction l with
  | nil => intro s _ _; rfl
  | cons y t ih =>
    intro s hr hb
    have hr' := List.pairwise_cons.1 hr
    have hy := hb y (by simp)
    have hf := reach_free hL hxn hy
    have ih' := fun s => ih s hr'.2 (fun z hz => hb z (by simp [hz]))
    rw [List.filter_cons, inner_cons]
    cases hc : cntB first y with
    | false =>
      have hp : pairB (has L) first x y = false := by unfold pairB; rw [hx, hc]; rfl
      rw [tryP_no hp]
      simp only [Bool.false_eq_true, if_false]
      exact ih' s
    | true =>
      simp only [if_true]
      unfold innerL
      by_cases hl : reach L.reverse x.n < y.n
      · rw [if_pos hl]
        have hfb : freeB (has L) x.n y.n = false := by rw [hf]; exact decide_eq_false (by omega)
        have hp : pairB (has L) first x y = false := by unfold pairB; rw [hfb]; simp
        rw [tryP_no hp]
        refine (inner_out (fun z hz => ?_) s).symm
        have hz1 := hr'.1 z hz
        have hfz := reach_free hL hxn (hb z (by simp [hz]))
        have : freeB (has L) x.n z.n = false := by rw [hfz]; exact decide_eq_false (by omega)
        unfold pairB; rw [this]; simp
      · rw [if_neg hl]
        have hfb : freeB (has L) x.n y.n = true := by rw [hf]; exact decide_eq_true (by omega)
        by_cases ht : x.t ≤ y.t
        · have hp : pairB (has L) first x y = true := by unfold pairB; rw [hx, hc, hfb, decide_eq_true ht]; rfl
          rw [if_pos ht, tryP_yes hp]
          exact ih' _
        · have hp : pairB (has L) first x y = false := by unfold pairB; rw [decide_eq_false ht]; simp
          rw [if_neg ht, tryP_no hp]
          exact ih' s
theorem fold_pairs {L : List R} (hL : Rises L) {first : Int} : ∀ (l : List Pk) (s : St), l.Pairwise (fun a b => a.n < b.n) → (∀ y ∈ l, y.n ≤ 9007199254740991) →
    (pairsL L.reverse (l.filter (cntB first))).foldl betterP s = outer (has L) first s l := by
  intro l
  induction l with
  | nil => intro s _ _; rfl
  | cons x t ih =>
    intro s hr hb
    have hr' := List.pairwise_cons.1 hr
    have ih' := fun s => ih s hr'.2 (fun z hz => hb z (by simp [hz]))
    rw [List.filter_cons]
    show _ = outer (has L) first (inner (has L) first x s t) t
    cases hc : cntB first x with
    | false =>
      simp only [Bool.false_eq_true, if_false]
      rw [inner_out (fun y _ => pairB_out hc y)]
      exact ih' s
    | true =>
      simp only [if_true]
      show (innerL x (reach L.reverse x.n) (t.filter (cntB first)) ++ pairsL L.reverse (t.filter (cntB first))).foldl betterP s = _
      rw [List.foldl_append]
      by_cases hxn : x.n < 9007199254740991
      · rw [inner_fold hL hc hxn t s hr'.2 (fun z hz => hb z (by simp [hz]))]
        exact ih' _
      · have ht : t = [] := by
          cases t with
          | nil => rfl
          | cons z u => have := hr'.1 z (by simp); have := hb z (by simp); omega
        subst ht; rfl
/-- The best one of the pairs that are handed over is the period. -/
theorem fold_per {L : List R} (hL : Rises L) (first : Int) {l : List Pk} (hr : l.Pairwise (fun a b => a.n < b.n)) (hb : ∀ y ∈ l, y.n ≤ 9007199254740991) : foldB (pairsL L.reverse (l.filter (cntB first))) = per (has L) first l := fold_pairs hL l none hr hb

/-! What is answered: a period, two numbers, whether there is one. -/
def p1 (s : St) : Int := match s with | none => 0 | some p => p.1
def p2 (s : St) : Int := match s with | none => 0 | some p => p.2.1
def p3 (s : St) : Int := match s with | none => 0 | some p => p.2.2
def perOf (S : Int → Bool) (l : List Pk) (first : Int) : St := if chkL l = 0 then (if 0 ≤ first ∧ first ≤ 9007199254740991 then per S first l else none) else none

end Go.Proofs.Ytdfjceghhjecaaa.PerM
