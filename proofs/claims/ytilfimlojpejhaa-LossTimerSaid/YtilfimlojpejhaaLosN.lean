/-
  Plain mathematics for the laws of layer 9: at other times the same are lost; what is told is when the next one is; sublists.
-/
import Derived.Test.YtilfimlojpejhaaLosM
namespace Go.Proofs.Ytilfimlojpejhaa.LosM
open Cd SntM
open RttM (Rt chk great)
set_option linter.unusedSimpArgs false
set_option linter.unusedVariables false

/-- What the time that is told says. -/
def Spec (a now wt : Int) (l : List Pk) (x : Int) : Prop :=
  (x = -1 ∧ ∀ p ∈ l, lostB a now wt p = true ∨ a < p.n) ∨
  (x ≠ -1 ∧ (∃ p ∈ l, lostB a now wt p = false ∧ p.n ≤ a ∧ x = due wt p) ∧ ∀ p ∈ l, lostB a now wt p = false → p.n ≤ a → x ≤ due wt p)
theorem spec_step {a now wt : Int} {l : List Pk} {x : Int} (h : Spec a now wt l x) (p : Pk) (hd : 0 ≤ due wt p) : Spec a now wt (l ++ [p]) (step a now wt x p) := by
  have hm : ∀ q, q ∈ l ++ [p] → q ∈ l ∨ q = p := fun q hq => by
    rcases List.mem_append.1 hq with h | h
    · exact .inl h
    · exact .inr (List.mem_singleton.1 h)
  cases hl : lostB a now wt p with
  | true =>
    rw [step_yes hl]
    rcases h with ⟨h1, h2⟩ | ⟨h1, ⟨q, hq, h2⟩, h3⟩
    · refine .inl ⟨h1, fun q hq => ?_⟩
      rcases hm q hq with hq | rfl
      · exact h2 q hq
      · exact .inl hl
    · refine .inr ⟨h1, ⟨q, List.mem_append_left _ hq, h2⟩, fun q hq h4 h5 => ?_⟩
      rcases hm q hq with hq | rfl
      · exact h3 q hq h4 h5
      · rw [hl] at h4; cases h4
  | false =>
    by_cases hn : a < p.n
    · rw [step_far hl hn]
      rcases h with ⟨h1, h2⟩ | ⟨h1, ⟨q, hq, h2⟩, h3⟩
      · refine .inl ⟨h1, fun q hq => ?_⟩
        rcases hm q hq with hq | rfl
        · exact h2 q hq
        · exact .inr hn
      · refine .inr ⟨h1, ⟨q, List.mem_append_left _ hq, h2⟩, fun q hq h4 h5 => ?_⟩
        rcases hm q hq with hq | rfl
        · exact h3 q hq h4 h5
        · omega
    · rw [step_due hl hn]
      by_cases hx : x = -1 ∨ due wt p < x
      · rw [if_pos hx]
        refine .inr ⟨by omega, ⟨p, by simp, hl, by omega, rfl⟩, fun q hq h4 h5 => ?_⟩
        rcases hm q hq with hq | rfl
        · rcases h with ⟨h1, h2⟩ | ⟨h1, _, h3⟩
          · rcases h2 q hq with h6 | h6
            · rw [h6] at h4; cases h4
            · omega
          · have := h3 q hq h4 h5; omega
        · exact Int.le_refl _
      · rw [if_neg hx]
        rcases h with ⟨h1, h2⟩ | ⟨h1, ⟨q, hq, h2⟩, h3⟩
        · exact absurd (.inl h1) hx
        · refine .inr ⟨h1, ⟨q, List.mem_append_left _ hq, h2⟩, fun q hq h4 h5 => ?_⟩
          rcases hm q hq with hq | rfl
          · exact h3 q hq h4 h5
          · omega
theorem spec_fold {a now wt : Int} : ∀ (l pre : List Pk) (x : Int), Spec a now wt pre x → (∀ p ∈ l, 0 ≤ due wt p) → Spec a now wt (pre ++ l) (l.foldl (step a now wt) x) := by
  intro l
  induction l with
  | nil => intro pre x h _; simpa using h
  | cons p l ih =>
    intro pre x h hd
    have := ih (pre ++ [p]) _ (spec_step h p (hd p (by simp))) (fun q hq => hd q (by simp [hq]))
    simpa using this
theorem atF_spec {a now wt : Int} {l : List Pk} (hd : ∀ p ∈ l, 0 ≤ due wt p) : Spec a now wt l (atF a now wt l) := by
  have := spec_fold (a := a) (now := now) (wt := wt) l [] (-1) (.inl ⟨rfl, fun p hp => by cases hp⟩) hd
  simpa [atF] using this

theorem lostL_congr {a now now2 wt : Int} {l : List Pk} (h : ∀ p ∈ l, lostB a now2 wt p = lostB a now wt p) : lostL a now2 wt l = lostL a now wt l := by
  unfold lostL; exact List.filter_congr h
theorem atF_congr {a now now2 wt : Int} {l : List Pk} (h : ∀ p ∈ l, lostB a now2 wt p = lostB a now wt p) : atF a now2 wt l = atF a now wt l := by
  unfold atF
  generalize (-1 : Int) = x
  induction l generalizing x with
  | nil => rfl
  | cons p l ih =>
    have e : step a now2 wt x p = step a now wt x p := by unfold step; rw [h p (by simp)]
    rw [List.foldl_cons, List.foldl_cons, e]
    exact ih (fun q hq => h q (by simp [hq])) _
theorem filter_le {f g : Pk → Bool} {l : List Pk} (h : ∀ p ∈ l, f p = true → g p = true) : (l.filter f).length ≤ (l.filter g).length := by
  induction l with
  | nil => exact Nat.le_refl _
  | cons p l ih =>
    have h1 := ih (fun q hq => h q (by simp [hq]))
    have h2 := h p (by simp)
    rw [List.filter_cons, List.filter_cons]
    cases hf : f p with
    | true =>
      rw [h2 hf]
      simp only [if_true, List.length_cons]
      omega
    | false =>
      cases hg : g p with
      | true => simp only [if_true, Bool.false_eq_true, if_false, List.length_cons]; omega
      | false => simpa using h1
theorem filter_lt {f g : Pk → Bool} {l : List Pk} (h : ∀ p ∈ l, f p = true → g p = true) {q : Pk} (hq : q ∈ l) (h1 : f q = false) (h2 : g q = true) : (l.filter f).length < (l.filter g).length := by
  obtain ⟨a, b, rfl⟩ := List.append_of_mem hq
  have k1 := filter_le (f := f) (g := g) (l := a) (fun p hp => h p (by simp [hp]))
  have k2 := filter_le (f := f) (g := g) (l := b) (fun p hp => h p (by simp [hp]))
  rw [List.filter_append, List.filter_append, List.filter_cons, List.filter_cons, h1, h2]
  simp only [if_true, Bool.false_eq_true, if_false, List.length_append, List.length_cons]
  omega
theorem lost_grows {a a2 now now2 wt : Int} (ha : a ≤ a2) (hn : now ≤ now2) {p : Pk} (h : lostB a now wt p = true) : lostB a2 now2 wt p = true := by
  have h := of_decide_eq_true h
  unfold lostB
  exact decide_eq_true (by omega)

/-- What P9.6 says, where no time is cut off. -/
theorem timer_math {a now wt : Int} {l : List Pk} (hd : ∀ p ∈ l, 0 ≤ p.t ∧ p.t + wt ≤ 9007199254740991) (hw : 0 ≤ wt) (hx : atF a now wt l ≠ -1) :
    now < atF a now wt l ∧ atF a now wt l ≤ 9007199254740991 ∧
    (∀ now2, now ≤ now2 → now2 < atF a now wt l → lostL a now2 wt l = lostL a now wt l ∧ atF a now2 wt l = atF a now wt l) ∧
    (lostL a now wt l).length < (lostL a (atF a now wt l) wt l).length ∧
    (atF a (atF a now wt l) wt l = -1 ∨ atF a now wt l < atF a (atF a now wt l) wt l) := by
  have hdue : ∀ p ∈ l, due wt p = p.t + wt := fun p hp => by unfold due; have := hd p hp; omega
  have hd0 : ∀ p ∈ l, 0 ≤ due wt p := fun p hp => by rw [hdue p hp]; have := hd p hp; omega
  have hs := atF_spec (a := a) (now := now) hd0
  generalize hx0 : atF a now wt l = x at *
  rcases hs with ⟨h, _⟩ | ⟨_, ⟨q, hq, h1, h2, h3⟩, h4⟩
  · exact absurd h hx
  rw [hdue q hq] at h3
  have hqd := hd q hq
  have hq1 := of_decide_eq_false h1
  have hnx : now < x := by omega
  refine ⟨hnx, by omega, fun now2 hn1 hn2 => ?_, ?_, ?_⟩
  · have key : ∀ p ∈ l, lostB a now2 wt p = lostB a now wt p := fun p hp => by
      cases hlp : lostB a now wt p with
      | true => exact lost_grows (Int.le_refl _) hn1 hlp
      | false =>
        have h5 := of_decide_eq_false hlp
        unfold lostB
        apply decide_eq_false
        rintro ⟨h6, h7⟩
        have h8 := h4 p hp hlp h6
        rw [hdue p hp] at h8
        omega
    exact ⟨lostL_congr key, (atF_congr key).trans hx0⟩
  · unfold lostL
    exact filter_lt (fun p _ hp => lost_grows (Int.le_refl _) (Int.le_of_lt hnx) hp) hq h1 (by unfold lostB; exact decide_eq_true ⟨h2, .inr (by omega)⟩)
  · rcases atF_spec (a := a) (now := x) hd0 with ⟨h, _⟩ | ⟨_, ⟨p, hp, h5, h6, h7⟩, _⟩
    · exact .inl h
    · right
      rw [h7, hdue p hp]
      have := of_decide_eq_false h5
      omega
/-- Where no time is told all others have greater numbers. -/
theorem timer_never {a now wt : Int} {l : List Pk} (hd : ∀ p ∈ l, 0 ≤ due wt p) (hx : atF a now wt l = -1) {p : Pk} (hp : p ∈ restL a now wt l) : a < p.n := by
  obtain ⟨h1, h2⟩ := List.mem_filter.1 hp
  rcases atF_spec (a := a) (now := now) hd with ⟨_, h⟩ | ⟨h, _⟩
  · rcases h p h1 with h3 | h3
    · rw [h3] at h2; cases h2
    · exact h3
  · exact absurd hx h

/-- What was lost is lost, too. -/
theorem grows_sub {a a2 now now2 wt : Int} (ha : a ≤ a2) (hn : now ≤ now2) (l : List Pk) : (lostL a now wt l).Sublist (lostL a2 now2 wt l) := by
  have e : lostL a now wt l = (lostL a2 now2 wt l).filter (lostB a now wt) := by
    unfold lostL
    rw [List.filter_filter]
    apply List.filter_congr
    intro p hp
    cases h : lostB a now wt p with
    | true => rw [lost_grows ha hn h]; rfl
    | false => rfl
  rw [e]
  exact List.filter_sublist
theorem cons_sub {u v : Pk} {a b : List Pk} (h : (v :: a).Sublist (u :: b)) (hne : u ≠ v) : (v :: a).Sublist b := by
  cases h with
  | cons _ h => exact h
  | cons_cons _ h => exact absurd rfl hne
theorem sub_next {l m : List Pk} {i k : Nat} (h : (l.drop i).Sublist (m.drop k)) (hi : i < l.length) (hk : k < m.length) (hne : at_ m k ≠ at_ l i) : (l.drop i).Sublist (m.drop (k + 1)) := by
  rw [at_of hi, at_of hk] at hne
  rw [← List.getElem_cons_drop hi, ← List.getElem_cons_drop hk] at h
  rw [← List.getElem_cons_drop hi]
  exact cons_sub h hne
theorem sub_step {l m : List Pk} {i k : Nat} (h : (l.drop i).Sublist (m.drop k)) : (l.drop (i + 1)).Sublist (m.drop k) := by
  refine List.Sublist.trans ?_ h
  rw [← List.drop_drop]
  exact List.drop_sublist 1 _
theorem sub_left {l m : List Pk} {i k : Nat} (h : (l.drop i).Sublist (m.drop k)) (hi : i < l.length) : k < m.length := by
  have := h.length_le
  rw [List.length_drop, List.length_drop] at this
  omega

/-- P9.2, as the law reckons it. -/
theorem long_is {G T t now : Int} (hT : T = max 1000000 (min (9 * G / 8) 9007199254740991)) (hG : 0 ≤ G ∧ G ≤ 1099511627776) : (9 * G - 7 ≤ 8 * (now - t) ∧ 1000000 ≤ now - t) ↔ t + T ≤ now := by omega
theorem split_len (a now wt : Int) (l : List Pk) : (lostL a now wt l).length + (restL a now wt l).length = l.length := by
  unfold lostL restL
  induction l with
  | nil => rfl
  | cons p l ih =>
    rw [List.filter_cons, List.filter_cons]
    cases h : lostB a now wt p with
    | true => simp only [if_true, Bool.not_true, Bool.false_eq_true, if_false, List.length_cons]; omega
    | false => simp only [Bool.not_false, if_true, Bool.false_eq_true, if_false, List.length_cons]; omega
theorem lost_at {a now wt : Int} {l : List Pk} {i : Nat} (hi : i < l.length) (h : lostB a now wt (at_ l i) = true) : (lostL a now wt (l.take i)).length < (lostL a now wt l).length ∧ at_ (lostL a now wt l) (lostL a now wt (l.take i)).length = at_ l i := by
  have e : l = l.take (i + 1) ++ l.drop (i + 1) := (List.take_append_drop _ _).symm
  have e1 : lostL a now wt l = (lostL a now wt (l.take i) ++ [at_ l i]) ++ lostL a now wt (l.drop (i + 1)) := by
    conv => lhs; rw [e]
    unfold lostL
    rw [List.filter_append]
    congr 1
    have := lostL_yes h (l.take i)
    unfold lostL at this
    rw [take_succ hi, this]
  rw [e1]
  constructor
  · simp
  · rw [at_left _ (by simp), at_snoc]
theorem rest_at {a now wt : Int} {l : List Pk} {i : Nat} (hi : i < l.length) (h : lostB a now wt (at_ l i) = false) : (restL a now wt (l.take i)).length < (restL a now wt l).length ∧ at_ (restL a now wt l) (restL a now wt (l.take i)).length = at_ l i := by
  have e : l = l.take (i + 1) ++ l.drop (i + 1) := (List.take_append_drop _ _).symm
  have e1 : restL a now wt l = (restL a now wt (l.take i) ++ [at_ l i]) ++ restL a now wt (l.drop (i + 1)) := by
    conv => lhs; rw [e]
    unfold restL
    rw [List.filter_append]
    congr 1
    have := restL_no h (l.take i)
    unfold restL at this
    rw [take_succ hi, this]
  rw [e1]
  constructor
  · simp
  · rw [at_left _ (by simp), at_snoc]

end Go.Proofs.Ytilfimlojpejhaa.LosM
