/-
  Plain mathematics of lost packets: which lists may be, the wait, which packets are lost, when it must be looked at again. Nothing here speaks of a program.
-/
import Derived.Test.YtdfjceghhjecaaaSntM
import Derived.Test.YtdfjceghhjecaaaRttM
import Derived.Test.YtdfjceghhjecaaaSatM
namespace Go.Proofs.Ytdfjceghhjecaaa.LosM
open Cd SntM
open RttM (Rt chk great)
set_option linter.unusedSimpArgs false
set_option linter.unusedVariables false

/-- The number ahead of a place. -/
def prev (l : List Pk) (i : Nat) : Int := if i = 0 then -1 else (at_ l (i - 1)).n
set_option maxRecDepth 100000 in
theorem prev_zero (l : List Pk) : prev l 0 = -1 := rfl
set_option maxRecDepth 100000 in
theorem prev_succ (l : List Pk) (i : Nat) : prev l (i + 1) = (at_ l i).n := by unfold prev; simp
/-- What was looked at is well. -/
def Scan (l : List Pk) (i : Nat) : Prop := ∀ j, j < i → valid (at_ l j) ∧ prev l j < (at_ l j).n
set_option maxRecDepth 100000 in
theorem scan_zero (l : List Pk) : Scan l 0 := fun j h => absurd h (by omega)
set_option maxRecDepth 100000 in
theorem scan_succ {l : List Pk} {i : Nat} (h : Scan l i) (hv : valid (at_ l i)) (hp : prev l i < (at_ l i).n) : Scan l (i + 1) := fun j hj => by
  rcases Nat.lt_or_ge j i with h' | h'
  · exact h j h'
  · obtain rfl : j = i := by omega
    exact ⟨hv, hp⟩
set_option maxRecDepth 100000 in
theorem scan_lt {l : List Pk} {m : Nat} (h : Scan l m) : ∀ k j, j < k → k < m → (at_ l j).n < (at_ l k).n := by
  intro k
  induction k with
  | zero => intro j hj; omega
  | succ k ih =>
    intro j hj hk
    have h1 := (h (k + 1) hk).2
    rw [prev_succ] at h1
    rcases Nat.lt_or_ge j k with h' | h'
    · have := ih j h' (by omega); omega
    · obtain rfl : j = k := by omega
      exact h1
/-- Which lists may be. -/
structure OkL (l : List Pk) : Prop where
  len : l.length ≤ 256
  val : ∀ p ∈ l, valid p
  rise : Rise l
instance (l : List Pk) : Decidable (OkL l) := decidable_of_iff (l.length ≤ 256 ∧ (∀ p ∈ l, valid p) ∧ Rise l) ⟨fun h => ⟨h.1, h.2.1, h.2.2⟩, fun h => ⟨h.len, h.val, h.rise⟩⟩
set_option maxRecDepth 100000 in
theorem okL_scan {l : List Pk} (h : OkL l) : Scan l l.length := fun j hj => by
  refine ⟨h.val _ (at_mem hj), ?_⟩
  cases j with
  | zero => rw [prev_zero]; have := (h.val _ (at_mem hj)).1; omega
  | succ j => rw [prev_succ]; exact rise_at h.rise (by omega) hj
set_option maxRecDepth 100000 in
theorem scan_okL {l : List Pk} (h : Scan l l.length) (hl : l.length ≤ 256) : OkL l := by
  refine ⟨hl, fun p hp => ?_, ?_⟩
  · obtain ⟨i, hi, rfl⟩ := mem_at hp
    exact (h i hi).1
  · rw [Rise, List.pairwise_iff_getElem]
    intro i j hi hj hij
    have := scan_lt h j i hij hj
    rwa [at_of hi, at_of hj] at this
def chkL (l : List Pk) : Int := if OkL l then 0 else 2
set_option maxRecDepth 100000 in
theorem chkL_scan {l : List Pk} (h : Scan l l.length) (hl : l.length ≤ 256) : chkL l = 0 := if_pos (scan_okL h hl)
set_option maxRecDepth 100000 in
theorem chkL_ok {l : List Pk} (h : OkL l) : chkL l = 0 := if_pos h
set_option maxRecDepth 100000 in
theorem chkL_stop {l : List Pk} {i : Nat} (hi : i < l.length) (h : ¬ (valid (at_ l i) ∧ prev l i < (at_ l i).n)) : chkL l = 2 := if_neg fun h' => h (okL_scan h' i hi)
set_option maxRecDepth 100000 in
theorem chkL_many {l : List Pk} (h : ¬ l.length ≤ 256) : chkL l = 2 := if_neg fun h' => h h'.len
set_option maxRecDepth 100000 in
theorem chkL_zero {l : List Pk} (h : chkL l = 0) : OkL l := by
  unfold chkL at h
  by_cases h' : OkL l
  · exact h'
  · rw [if_neg h'] at h; omega
set_option maxRecDepth 100000 in
theorem chkL_two {l : List Pk} (h : ¬ chkL l = 0) : chkL l = 2 := by
  unfold chkL at *
  by_cases h' : OkL l
  · rw [if_pos h'] at h; omega
  · rw [if_neg h']

set_option maxRecDepth 100000 in
/-! The wait. -/
theorem great_bd {r : Rt} (h : chk r = 0) : 0 ≤ great r ∧ great r ≤ 9007199254740991 := by
  unfold great
  rw [if_pos h]
  rcases RttM.ok_cases h with h1 | h1
  · obtain ⟨a, b, c, d, e, f⟩ := h1
    split <;> omega
  · obtain ⟨⟨a1, a2⟩, ⟨b1, b2⟩, ⟨c1, c2⟩, _⟩ := h1
    split <;> omega
def wait (r : Rt) : Int := if chk r = 0 then max 1000000 (min (9 * great r / 8) 9007199254740991) else 0
set_option maxRecDepth 100000 in
theorem wait_none {r : Rt} (h : ¬ chk r = 0) : wait r = 0 := if_neg h
set_option maxRecDepth 100000 in
theorem wait_ok {r : Rt} (h : chk r = 0) : wait r = max 1000000 (min (9 * great r / 8) 9007199254740991) := if_pos h
set_option maxRecDepth 100000 in
theorem wait_bd {r : Rt} (h : chk r = 0) : 1000000 ≤ wait r ∧ wait r ≤ 9007199254740991 := by
  rw [wait_ok h]; omega
set_option maxRecDepth 100000 in
theorem wait_lo (r : Rt) : 0 ≤ wait r ∧ wait r ≤ 9007199254740991 := by
  by_cases h : chk r = 0
  · have := wait_bd h; omega
  · rw [wait_none h]; omega
set_option maxRecDepth 100000 in
theorem mulq_nine {g : Int} (h0 : 0 ≤ g) (h1 : g ≤ 9007199254740991) : Sat.mulq 9 g 8 = min (9 * g / 8) 9007199254740991 := by
  have e8 : Sat.num 8 = 8 := Sat.num_id 8 (by omega) (by omega)
  have e9 : Sat.num 9 = 9 := Sat.num_id 9 (by omega) (by omega)
  rw [Sat.mulq_num 9 g 8 (by rw [e8]; omega), e8, e9, Sat.num_id g h0 h1, ← Sat.num_max]
  omega

/-! Which are lost, and when others may be. -/
def lostB (a now wt : Int) (p : Pk) : Bool := decide (p.n ≤ a ∧ (p.n ≤ a - 3 ∨ p.t + wt ≤ now))
def lostL (a now wt : Int) (l : List Pk) : List Pk := l.filter (lostB a now wt)
def restL (a now wt : Int) (l : List Pk) : List Pk := l.filter (fun p => !lostB a now wt p)
def due (wt : Int) (p : Pk) : Int := min (p.t + wt) 9007199254740991
def step (a now wt x : Int) (p : Pk) : Int := if lostB a now wt p = true then x else if a < p.n then x else if x = -1 ∨ due wt p < x then due wt p else x
def atF (a now wt : Int) (l : List Pk) : Int := l.foldl (step a now wt) (-1)
set_option maxRecDepth 100000 in
theorem lostL_nil (a now wt : Int) : lostL a now wt [] = [] := rfl
set_option maxRecDepth 100000 in
theorem restL_nil (a now wt : Int) : restL a now wt [] = [] := rfl
set_option maxRecDepth 100000 in
theorem atF_nil (a now wt : Int) : atF a now wt [] = -1 := rfl
set_option maxRecDepth 100000 in
theorem lostL_yes {a now wt : Int} {p : Pk} (h : lostB a now wt p = true) (l : List Pk) : lostL a now wt (l ++ [p]) = lostL a now wt l ++ [p] := by unfold lostL; rw [List.filter_append]; simp [h]
set_option maxRecDepth 100000 in
theorem lostL_no {a now wt : Int} {p : Pk} (h : lostB a now wt p = false) (l : List Pk) : lostL a now wt (l ++ [p]) = lostL a now wt l := by unfold lostL; rw [List.filter_append]; simp [h]
set_option maxRecDepth 100000 in
theorem restL_yes {a now wt : Int} {p : Pk} (h : lostB a now wt p = true) (l : List Pk) : restL a now wt (l ++ [p]) = restL a now wt l := by unfold restL; rw [List.filter_append]; simp [h]
set_option maxRecDepth 100000 in
theorem restL_no {a now wt : Int} {p : Pk} (h : lostB a now wt p = false) (l : List Pk) : restL a now wt (l ++ [p]) = restL a now wt l ++ [p] := by unfold restL; rw [List.filter_append]; simp [h]
set_option maxRecDepth 100000 in
theorem atF_snoc (a now wt : Int) (l : List Pk) (p : Pk) : atF a now wt (l ++ [p]) = step a now wt (atF a now wt l) p := by unfold atF; rw [List.foldl_append]; rfl
set_option maxRecDepth 100000 in
theorem step_yes {a now wt : Int} {p : Pk} (h : lostB a now wt p = true) (x : Int) : step a now wt x p = x := if_pos h
set_option maxRecDepth 100000 in
theorem step_far {a now wt : Int} {p : Pk} (h : lostB a now wt p = false) (hn : a < p.n) (x : Int) : step a now wt x p = x := by unfold step; rw [if_neg (by rw [h]; decide), if_pos hn]
set_option maxRecDepth 100000 in
theorem step_due {a now wt : Int} {p : Pk} (h : lostB a now wt p = false) (hn : ¬ a < p.n) (x : Int) : step a now wt x p = if x = -1 ∨ due wt p < x then due wt p else x := by unfold step; rw [if_neg (by rw [h]; decide), if_neg hn]
set_option maxRecDepth 100000 in
theorem lost_len (a now wt : Int) (l : List Pk) : (lostL a now wt l).length ≤ l.length := List.length_filter_le _ _
set_option maxRecDepth 100000 in
theorem rest_len (a now wt : Int) (l : List Pk) : (restL a now wt l).length ≤ l.length := List.length_filter_le _ _
set_option maxRecDepth 100000 in
theorem lost_far {a now wt : Int} {p : Pk} (h : a < p.n) : lostB a now wt p = false := decide_eq_false (by omega)
set_option maxRecDepth 100000 in
theorem lost_three {a now wt : Int} {p : Pk} (h : ¬ a < p.n) (h' : p.n ≤ a - 3) : lostB a now wt p = true := decide_eq_true ⟨by omega, .inl h'⟩
set_option maxRecDepth 100000 in
theorem lost_late {a now wt : Int} {p : Pk} (h : ¬ a < p.n) (h' : p.t + wt ≤ now) : lostB a now wt p = true := decide_eq_true ⟨by omega, .inr h'⟩
set_option maxRecDepth 100000 in
theorem lost_no {a now wt : Int} {p : Pk} (h1 : ¬ p.n ≤ a - 3) (h2 : ¬ p.t + wt ≤ now) : lostB a now wt p = false := decide_eq_false (by omega)
/-- What comes of the times. -/
def isT (x : Int) : Prop := x = -1 ∨ (0 ≤ x ∧ x ≤ 9007199254740991)
set_option maxRecDepth 100000 in
theorem due_bd {wt : Int} {p : Pk} (hp : valid p) (hw : 0 ≤ wt) : 0 ≤ due wt p ∧ due wt p ≤ 9007199254740991 := by
  have := hp.2.2.1
  unfold due; omega
set_option maxRecDepth 100000 in
theorem step_time {a now wt x : Int} {p : Pk} (hx : isT x) (hp : valid p) (hw : 0 ≤ wt) : isT (step a now wt x p) := by
  have hd := due_bd hp hw
  unfold step
  split
  · exact hx
  · split
    · exact hx
    · split
      · exact .inr hd
      · exact hx
set_option maxRecDepth 100000 in
theorem atF_time {a now wt : Int} (hw : 0 ≤ wt) : ∀ {l : List Pk}, (∀ p ∈ l, valid p) → isT (atF a now wt l) := by
  intro l
  suffices h : ∀ (l : List Pk) (x : Int), isT x → (∀ p ∈ l, valid p) → isT (l.foldl (step a now wt) x) from fun hl => h l (-1) (.inl rfl) hl
  intro l
  induction l with
  | nil => intro x hx _; exact hx
  | cons p l ih => intro x hx hl; exact ih _ (step_time hx (hl p (by simp)) hw) (fun q hq => hl q (by simp [hq]))
set_option maxRecDepth 100000 in
theorem earlier_never {x : Int} (hx : isT x) : Sat.earlier x (-1) = x := Sat.earlier_le x (-1) hx (.inl rfl) (.inl rfl)
set_option maxRecDepth 100000 in
theorem earlier_due {x d : Int} (hx : isT x) (hd : 0 ≤ d ∧ d ≤ 9007199254740991) : Sat.earlier x d = if x = -1 ∨ d < x then d else x := by
  unfold Sat.earlier
  rw [Sat.tm_id x hx, Sat.tm_id d (.inr hd)]
  by_cases h : x = -1 ∨ d < x
  · rw [if_pos h, if_pos]
    unfold Sat.befB
    exact decide_eq_true ⟨by omega, h⟩
  · rw [if_neg h, if_neg]
    unfold Sat.befB
    rw [decide_eq_true_iff]
    rintro ⟨_, h'⟩
    exact h h'
/-- When one may be lost, as the rule tells it. -/
def dueP (a wt : Int) (p : Pk) : Int := if a < p.n then -1 else due wt p
set_option maxRecDepth 100000 in
theorem step_earlier {a now wt x : Int} {p : Pk} (h : lostB a now wt p = false) (hx : isT x) (hp : valid p) (hw : 0 ≤ wt) : Sat.earlier x (dueP a wt p) = step a now wt x p := by
  unfold dueP
  by_cases hn : a < p.n
  · rw [if_pos hn, step_far h hn]; exact earlier_never hx
  · rw [if_neg hn, step_due h hn]; exact earlier_due hx (due_bd hp hw)
set_option maxRecDepth 100000 in
theorem due_add {wt : Int} {p : Pk} (hp : valid p) (hw : 0 ≤ wt) (hw' : wt ≤ 9007199254740991) : Sat.add p.t wt = due wt p := by
  have h1 := hp.2.2.1
  have h2 : p.t ≤ 9007199254740991 := hp.2.2.2.1
  unfold Sat.add due
  rw [Sat.num_id p.t h1 h2, Sat.num_id wt hw hw', ← Sat.num_max]
  omega

/-! What Find answers. -/
def ranged (a now : Int) : Prop := (a = -1 ∨ (0 ≤ a ∧ a ≤ 9007199254740991)) ∧ RttM.tm now
instance (a now : Int) : Decidable (ranged a now) := by unfold ranged; infer_instance
def findE (l : List Pk) (a now : Int) (r : Rt) : Int := if chkL l = 0 then (if ranged a now then chk r else 9) else 2
def fLost (l : List Pk) (a now : Int) (r : Rt) : List Pk := if findE l a now r = 0 then lostL a now (wait r) l else []
def fRest (l : List Pk) (a now : Int) (r : Rt) : List Pk := if findE l a now r = 0 then restL a now (wait r) l else []
def fAt (l : List Pk) (a now : Int) (r : Rt) : Int := if findE l a now r = 0 then atF a now (wait r) l else 0
set_option maxRecDepth 100000 in
theorem findE_list {l : List Pk} (h : ¬ chkL l = 0) (a now : Int) (r : Rt) : findE l a now r = 2 := if_neg h
set_option maxRecDepth 100000 in
theorem findE_range {l : List Pk} (h : chkL l = 0) {a now : Int} (h' : ¬ ranged a now) (r : Rt) : findE l a now r = 9 := by unfold findE; rw [if_pos h, if_neg h']
set_option maxRecDepth 100000 in
theorem findE_rtt {l : List Pk} (h : chkL l = 0) {a now : Int} (h' : ranged a now) (r : Rt) : findE l a now r = chk r := by unfold findE; rw [if_pos h, if_pos h']
set_option maxRecDepth 100000 in
theorem findE_zero {l : List Pk} {a now : Int} {r : Rt} (h : findE l a now r = 0) : OkL l ∧ ranged a now ∧ chk r = 0 := by
  unfold findE at h
  by_cases h1 : chkL l = 0
  · rw [if_pos h1] at h
    by_cases h2 : ranged a now
    · rw [if_pos h2] at h; exact ⟨chkL_zero h1, h2, h⟩
    · rw [if_neg h2] at h; omega
  · rw [if_neg h1] at h; omega
set_option maxRecDepth 100000 in
theorem f_ok {l : List Pk} {a now : Int} {r : Rt} (h : findE l a now r = 0) : fLost l a now r = lostL a now (wait r) l ∧ fRest l a now r = restL a now (wait r) l ∧ fAt l a now r = atF a now (wait r) l := ⟨if_pos h, if_pos h, if_pos h⟩
set_option maxRecDepth 100000 in
theorem f_no {l : List Pk} {a now : Int} {r : Rt} (h : ¬ findE l a now r = 0) : fLost l a now r = [] ∧ fRest l a now r = [] ∧ fAt l a now r = 0 := ⟨if_neg h, if_neg h, if_neg h⟩
set_option maxRecDepth 100000 in
theorem f_len (l : List Pk) (a now : Int) (r : Rt) : (fLost l a now r).length ≤ 256 ∧ (fRest l a now r).length ≤ 256 := by
  by_cases h : findE l a now r = 0
  · have h1 := (findE_zero h).1.len
    rw [(f_ok h).1, (f_ok h).2.1]
    have := lost_len a now (wait r) l
    have := rest_len a now (wait r) l
    omega
  · rw [(f_no h).1, (f_no h).2.1]; simp

end Go.Proofs.Ytdfjceghhjecaaa.LosM
