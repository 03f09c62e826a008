/-
  Plain mathematics of estimates of the round-trip time: which ones may be, what becomes of one behind a sample, rows of samples. Nothing here speaks of a program.
-/
import Derived.Test.YtdfjceghhjecaaaWord
namespace Go.Proofs.Ytdfjceghhjecaaa.RttM
set_option linter.unusedVariables false
set_option linter.unusedSimpArgs false

/-- An estimate: the latest time, the least one, what is smoothed, how much it varies, when the first sample was. -/
structure Rt where
  l : Int
  m : Int
  s : Int
  v : Int
  f : Int
set_option maxRecDepth 100000 in
theorem Rt.ext' {a b : Rt} (h1 : a.l = b.l) (h2 : a.m = b.m) (h3 : a.s = b.s) (h4 : a.v = b.v) (h5 : a.f = b.f) : a = b := by
  cases a; cases b; simp_all
instance : DecidableEq Rt := fun a b => decidable_of_iff (a.l = b.l ∧ a.m = b.m ∧ a.s = b.s ∧ a.v = b.v ∧ a.f = b.f)
  ⟨fun h => Rt.ext' h.1 h.2.1 h.2.2.1 h.2.2.2.1 h.2.2.2.2, fun h => by subst h; simp⟩
def zero : Rt := ⟨0, 0, 0, 0, 0⟩
def M : Int := 9007199254740991
/-- A time. -/
def tm (n : Int) : Prop := 0 ≤ n ∧ n ≤ 9007199254740991
instance (n : Int) : Decidable (tm n) := by unfold tm; infer_instance
def isNew (r : Rt) : Prop := 1000000 ≤ r.s ∧ r.s ≤ 60000000000 ∧ r.l = 0 ∧ r.m = 0 ∧ r.v = r.s / 2 ∧ r.f = -1
instance (r : Rt) : Decidable (isNew r) := by unfold isNew; infer_instance
def meas (r : Rt) : Prop := tm r.l ∧ tm r.m ∧ tm r.s ∧ tm r.v ∧ tm r.f ∧ r.m ≤ r.l ∧ r.m ≤ r.s
instance (r : Rt) : Decidable (meas r) := by unfold meas; infer_instance
set_option maxRecDepth 100000 in
theorem not_both {r : Rt} (h : isNew r) : ¬ meas r := by
  obtain ⟨_, _, _, _, _, hf⟩ := h
  rintro ⟨_, _, _, _, ⟨h0, _⟩, _⟩
  omega
def chk (r : Rt) : Int := if isNew r then 0 else if meas r then 0 else 2
set_option maxRecDepth 100000 in
theorem chk_new {r : Rt} (h : isNew r) : chk r = 0 := if_pos h
set_option maxRecDepth 100000 in
theorem chk_meas {r : Rt} (h : meas r) : chk r = 0 := by unfold chk; split; rfl; rfl
set_option maxRecDepth 100000 in
theorem chk_none {r : Rt} (h : ¬ isNew r) (h' : ¬ meas r) : chk r = 2 := by unfold chk; rw [if_neg h, if_neg h']

/-- The new estimate. -/
def fresh (a : Int) : Rt := ⟨0, 0, a, a / 2, -1⟩
def newR (a : Int) : Rt := if a < 1000000 then zero else if 60000000000 < a then zero else fresh a
def newE (a : Int) : Int := if a < 1000000 then 9 else if 60000000000 < a then 9 else 0
set_option maxRecDepth 100000 in
theorem newR_low {a : Int} (h : a < 1000000) : newR a = zero := if_pos h
set_option maxRecDepth 100000 in
theorem newR_high {a : Int} (h : 60000000000 < a) : newR a = zero := by unfold newR; split; rfl; rfl
set_option maxRecDepth 100000 in
theorem newR_in {a : Int} (h : ¬ a < 1000000) (h' : ¬ 60000000000 < a) : newR a = fresh a := by unfold newR; rw [if_neg h, if_neg h']
set_option maxRecDepth 100000 in
theorem newE_low {a : Int} (h : a < 1000000) : newE a = 9 := if_pos h
set_option maxRecDepth 100000 in
theorem newE_high {a : Int} (h : 60000000000 < a) : newE a = 9 := by unfold newE; split; rfl; rfl
set_option maxRecDepth 100000 in
theorem newE_in {a : Int} (h : ¬ a < 1000000) (h' : ¬ 60000000000 < a) : newE a = 0 := by unfold newE; rw [if_neg h, if_neg h']
set_option maxRecDepth 100000 in
theorem fresh_new {a : Int} (h : 1000000 ≤ a) (h' : a ≤ 60000000000) : isNew (fresh a) := ⟨h, h', rfl, rfl, rfl, rfl⟩
set_option maxRecDepth 100000 in
theorem isNew_fresh {r : Rt} (h : isNew r) : r = fresh r.s := Rt.ext' h.2.2.1 h.2.2.2.1 rfl h.2.2.2.2.1 h.2.2.2.2.2

/-- What counts of a sample that took x, of which y was held back; m is the least one. -/
def cnt (m x y : Int) : Int := if m + y ≤ x then x - y else x
/-- How far two numbers are from each other. -/
def far (a b : Int) : Int := if a - b < b - a then b - a else a - b
/-- The estimate behind a first sample, and behind another one. -/
def first (x z : Int) : Rt := ⟨x, x, x, x / 2, z⟩
def next (r : Rt) (x y : Int) : Rt := ⟨x, min r.m x, (7 * r.s + cnt (min r.m x) x y) / 8, (3 * r.v + far (cnt (min r.m x) x y) r.s) / 4, r.f⟩
def after (r : Rt) (x y z : Int) : Rt := if isNew r then first x z else next r x y
def sampR (r : Rt) (x y z : Int) : Rt := if chk r = 0 then (if tm x ∧ tm y ∧ tm z then after r x y z else zero) else zero
def sampE (r : Rt) (x y z : Int) : Int := if chk r = 0 then (if tm x ∧ tm y ∧ tm z then 0 else 9) else 2

set_option maxRecDepth 100000 in
theorem after_new {r : Rt} (h : isNew r) (x y z : Int) : after r x y z = first x z := if_pos h
set_option maxRecDepth 100000 in
theorem after_meas {r : Rt} (h : meas r) (x y z : Int) : after r x y z = next r x y := if_neg (fun h' => not_both h' h)
set_option maxRecDepth 100000 in
theorem samp_ok {r : Rt} {x y z : Int} (h : chk r = 0) (hx : tm x) (hy : tm y) (hz : tm z) : sampR r x y z = after r x y z ∧ sampE r x y z = 0 := by
  unfold sampR sampE
  rw [if_pos h, if_pos h, if_pos ⟨hx, hy, hz⟩, if_pos ⟨hx, hy, hz⟩]
  exact ⟨rfl, rfl⟩
set_option maxRecDepth 100000 in
theorem samp_range {r : Rt} {x y z : Int} (h : chk r = 0) (hn : ¬ (tm x ∧ tm y ∧ tm z)) : sampR r x y z = zero ∧ sampE r x y z = 9 := by
  unfold sampR sampE
  rw [if_pos h, if_pos h, if_neg hn, if_neg hn]
  exact ⟨rfl, rfl⟩
set_option maxRecDepth 100000 in
theorem samp_bad {r : Rt} {x y z : Int} (h : ¬ isNew r) (h' : ¬ meas r) : sampR r x y z = zero ∧ sampE r x y z = 2 := by
  have e : ¬ chk r = 0 := by rw [chk_none h h']; omega
  unfold sampR sampE
  rw [if_neg e, if_neg e]
  exact ⟨rfl, rfl⟩
set_option maxRecDepth 100000 in
theorem ok_cases {r : Rt} (h : chk r = 0) : isNew r ∨ meas r := by
  by_cases h1 : isNew r
  · exact .inl h1
  · by_cases h2 : meas r
    · exact .inr h2
    · rw [chk_none h1 h2] at h; omega

set_option maxRecDepth 100000 in
theorem far_bd {a b : Int} (ha : 0 ≤ a) (hb : 0 ≤ b) {t : Int} (hat : a ≤ t) (hbt : b ≤ t) : 0 ≤ far a b ∧ far a b ≤ t := by unfold far; split <;> omega
set_option maxRecDepth 100000 in
theorem cnt_bd {m x y : Int} (hm : 0 ≤ m) (hx : m ≤ x) (hy : 0 ≤ y) : m ≤ cnt m x y ∧ cnt m x y ≤ x := by unfold cnt; split <;> omega
set_option maxRecDepth 100000 in
theorem next_of (r : Rt) (x y c d : Int) (hc : cnt (min r.m x) x y = c) (hd : far c r.s = d) : next r x y = ⟨x, min r.m x, (7 * r.s + c) / 8, (3 * r.v + d) / 4, r.f⟩ := by
  subst hc; subst hd; rfl
set_option maxRecDepth 100000 in
/-- What a measured estimate becomes is one. -/
theorem next_meas {r : Rt} (h : meas r) {x y : Int} (hx : tm x) (hy : tm y) : meas (next r x y) := by
  obtain ⟨l, m, s, v, f⟩ := r
  obtain ⟨⟨hl, hl'⟩, ⟨hm, hm'⟩, ⟨hs, hs'⟩, ⟨hv, hv'⟩, hf, hml, hms⟩ := h
  simp only at *
  obtain ⟨hx0, hx1⟩ := hx
  obtain ⟨hy0, hy1⟩ := hy
  have h1 := cnt_bd (m := min m x) (x := x) (y := y) (by omega) (by omega) hy0
  obtain ⟨c, hc⟩ : ∃ c, cnt (min m x) x y = c := ⟨_, rfl⟩
  rw [hc] at h1
  have h2 := far_bd (a := c) (b := s) (t := 9007199254740991) (by omega) hs (by omega) hs'
  obtain ⟨d, hd⟩ : ∃ d, far c s = d := ⟨_, rfl⟩
  rw [hd] at h2
  rw [next_of ⟨l, m, s, v, f⟩ x y c d hc hd]
  unfold meas tm
  simp only
  exact ⟨⟨hx0, hx1⟩, by omega, by omega, by omega, hf, by omega, by omega⟩
set_option maxRecDepth 100000 in
theorem first_meas {x z : Int} (hx : tm x) (hz : tm z) : meas (first x z) := by
  simp only [tm] at *
  refine ⟨hx, hx, hx, ⟨?_, ?_⟩, hz, Int.le_refl _, Int.le_refl _⟩
  · show 0 ≤ x / 2; omega
  · show x / 2 ≤ _; omega
set_option maxRecDepth 100000 in
theorem after_ok {r : Rt} (h : chk r = 0) {x y z : Int} (hx : tm x) (hy : tm y) (hz : tm z) : meas (after r x y z) := by
  rcases ok_cases h with h | h
  · rw [after_new h]; exact first_meas hx hz
  · rw [after_meas h]; exact next_meas h hx hy

/-- How much of a delay counts. -/
def clip (n : Int) : Int := if n < 0 then 0 else if 9007199254740991 < n then 9007199254740991 else n
set_option maxRecDepth 100000 in
theorem clip_id {n : Int} (h : tm n) : clip n = n := by unfold clip tm at *; rw [if_neg (by omega), if_neg (by omega)]
set_option maxRecDepth 100000 in
theorem clip_lo {n : Int} (h : n < 0) : clip n = 0 := if_pos h
set_option maxRecDepth 100000 in
theorem clip_hi {n : Int} (h : 9007199254740991 < n) : clip n = 9007199254740991 := by unfold clip; rw [if_neg (by omega), if_pos h]
set_option maxRecDepth 100000 in
theorem clip_bd (n : Int) : 0 ≤ clip n ∧ clip n ≤ 9007199254740991 := by unfold clip; split; omega; split <;> omega
set_option maxRecDepth 100000 in
theorem tm_clip (n : Int) : decide (tm n) = (n == clip n) := by
  rw [Bool.eq_iff_iff, decide_eq_true_iff, beq_iff_eq]
  constructor
  · intro h; exact (clip_id h).symm
  · intro h; rw [h]; exact clip_bd n
def held (d m : Int) (k : Bool) : Int := if k = true then min (clip d) (clip m) else clip d
def great (r : Rt) : Int := if chk r = 0 then (if r.s < r.l then r.l else r.s) else 0

/-- An estimate behind samples: each how long it took, how much was held back, when. -/
structure Sm where
  x : Int
  y : Int
  z : Int
def okS (a : Sm) : Prop := tm a.x ∧ tm a.y ∧ tm a.z
def go1 (r : Rt) (a : Sm) : Rt := after r a.x a.y a.z
def runs (r : Rt) (l : List Sm) : Rt := l.foldl go1 r
set_option maxRecDepth 100000 in
theorem runs_snoc (r : Rt) (l : List Sm) (a : Sm) : runs r (l ++ [a]) = go1 (runs r l) a := by simp [runs, List.foldl_append]
set_option maxRecDepth 100000 in
theorem runs_cons (r : Rt) (l : List Sm) (a : Sm) : runs r (a :: l) = runs (go1 r a) l := rfl
def base0 : Rt := fresh 1000000
set_option maxRecDepth 100000 in
theorem base0_new : isNew base0 := fresh_new (by omega) (by omega)
set_option maxRecDepth 100000 in
theorem runs_ok {r : Rt} (h : chk r = 0) : ∀ {l : List Sm}, (∀ a ∈ l, okS a) → chk (runs r l) = 0 := by
  intro l
  induction l generalizing r with
  | nil => intro _; exact h
  | cons a l ih =>
    intro ha
    rw [runs_cons]
    have h1 := ha a (by simp)
    exact ih (chk_meas (after_ok h h1.1 h1.2.1 h1.2.2)) (fun b hb => ha b (by simp [hb]))

/-- The least one, and the greatest one of samples. -/
def least (l : List Sm) (a : Int) : Int := l.foldl (fun m s => min m s.x) a
def most (l : List Sm) (a : Int) : Int := l.foldl (fun m s => max m s.x) a
set_option maxRecDepth 100000 in
theorem least_snoc (l : List Sm) (a : Int) (s : Sm) : least (l ++ [s]) a = min (least l a) s.x := by simp [least, List.foldl_append]
set_option maxRecDepth 100000 in
theorem most_snoc (l : List Sm) (a : Int) (s : Sm) : most (l ++ [s]) a = max (most l a) s.x := by simp [most, List.foldl_append]

/-- What holds behind samples (P7.4). -/
structure Bd (r : Rt) (lo hi last f : Int) : Prop where
  rm : r.m = lo
  rl : r.l = last
  rf : r.f = f
  ft : tm f
  lo0 : 0 ≤ lo
  hi1 : hi ≤ 9007199254740991
  lol : lo ≤ last
  lhi : last ≤ hi
  s : lo ≤ r.s ∧ r.s ≤ hi
  v : 0 ≤ r.v ∧ r.v ≤ hi
set_option maxRecDepth 100000 in
theorem Bd.meas {r : Rt} {lo hi last f : Int} (h : Bd r lo hi last f) : meas r := by
  obtain ⟨h1, h2, h3, h4, h5, h6, h7, h8, h9, h10⟩ := h
  unfold RttM.meas tm
  rw [h1, h2, h3]
  exact ⟨by omega, by omega, by omega, by omega, h4, by omega, by omega⟩
set_option maxRecDepth 100000 in
theorem Bd.first {a : Sm} (h : okS a) : Bd (RttM.first a.x a.z) a.x a.x a.x a.z := by
  obtain ⟨hx, hy, hz⟩ := h
  refine ⟨rfl, rfl, rfl, hz, hx.1, hx.2, Int.le_refl _, Int.le_refl _, ⟨Int.le_refl _, Int.le_refl _⟩, ?_⟩
  have := hx.1
  constructor
  · show 0 ≤ a.x / 2; omega
  · show a.x / 2 ≤ _; omega
set_option maxRecDepth 100000 in
theorem Bd.next {r : Rt} {lo hi last f : Int} (h : Bd r lo hi last f) {a : Sm} (ha : okS a) : Bd (go1 r a) (min lo a.x) (max hi a.x) a.x f := by
  have hm := h.meas
  obtain ⟨⟨hx0, hx1⟩, ⟨hy0, hy1⟩, hz⟩ := ha
  unfold go1
  rw [after_meas hm]
  obtain ⟨h1, h2, h3, h4, h5, h6, h7, h8, h9, h10⟩ := h
  obtain ⟨l, m, s, v, f'⟩ := r
  obtain ⟨x, y, z⟩ := a
  simp only at *
  subst h1
  have c1 := cnt_bd (m := min m x) (x := x) (y := y) (by omega) (by omega) hy0
  obtain ⟨c, hc⟩ : ∃ c, cnt (min m x) x y = c := ⟨_, rfl⟩
  rw [hc] at c1
  have c2 := far_bd (a := c) (b := s) (t := max hi x) (by omega) (by omega) (by omega) (by omega)
  obtain ⟨d, hd⟩ : ∃ d, far c s = d := ⟨_, rfl⟩
  rw [hd] at c2
  rw [next_of ⟨l, m, s, v, f'⟩ x y c d hc hd]
  exact ⟨rfl, rfl, h3, h4, by omega, by omega, by omega, by omega, by simp only; omega, by simp only; omega⟩

/-- Two estimates, of which one is behind samples that took longer (P7.6). -/
structure Le (a b : Rt) : Prop where
  m : a.m ≤ b.m
  s : a.s ≤ b.s
set_option maxRecDepth 100000 in
theorem le_next {a b : Rt} (h : Le a b) (ha : meas a) (hb : meas b) {x x' : Int} (hx : 0 ≤ x) (hxx : x ≤ x') : Le (next a x 0) (next b x' 0) := by
  have e : ∀ m x, cnt m x 0 = x := by intro m x; unfold cnt; split <;> omega
  have h1 := h.1
  have h2 := h.2
  unfold next
  rw [e, e]
  exact ⟨by show min a.m x ≤ min b.m x'; omega, by show (7 * a.s + x) / 8 ≤ (7 * b.s + x') / 8; omega⟩

end Go.Proofs.Ytdfjceghhjecaaa.RttM
