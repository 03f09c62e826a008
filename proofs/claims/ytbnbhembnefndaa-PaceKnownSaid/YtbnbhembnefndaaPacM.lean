/-
  Plain mathematics of pacing: what calls make of a pacer, when a packet may go, what goes from one time to another. Nothing here speaks of a program.
-/
import Derived.Test.YtbnbhembnefndaaBucM
namespace Go.Proofs.Ytbnbhembnefndaa.PacM
open BucM
set_option linter.unusedVariables false
set_option linter.unusedSimpArgs false

/-- A bucket and a rate. -/
structure Pc where
  x : Bk
  p : Int
  q : Int
deriving DecidableEq, Inhabited
structure OkP (c : Pc) : Prop where
  x : Ok c.x
  m : may c.p c.q
def made (b t : Int) : Pc := ⟨BucM.made b t, 0, 1⟩
theorem made_ok {b t : Int} (h : newE b t = 0) : OkP (made b t) := ⟨BucM.made_ok h, show may 0 1 by decide⟩
def den (s : Int) : Int := max 1 (min (4 * s) 9007199254740991)
def okS (t c s : Int) : Prop := tm t ∧ (1 ≤ c ∧ c ≤ 1099511627776) ∧ tm s
instance (t c s : Int) : Decidable (okS t c s) := by unfold okS; infer_instance
theorem may_den {c s : Int} (hc : 1 ≤ c ∧ c ≤ 1099511627776) (hs : tm s) : may (5 * c) (den s) := by
  have := hs.1
  unfold den
  exact ⟨⟨by omega, by omega⟩, ⟨by omega, by omega⟩⟩
def setE (c : Pc) (t w s : Int) : Int := if okS t w s then (if t < c.x.t then 210 else 0) else 2
def set_ (c : Pc) (t w s : Int) : Pc := if setE c t w s = 0 then ⟨fill c.x t c.p c.q, 5 * w, den s⟩ else c
def sz (n : Int) : Prop := 1 ≤ n ∧ n ≤ 65535
instance (n : Int) : Decidable (sz n) := by unfold sz; infer_instance
def sendE (c : Pc) (t n : Int) : Int := if tm t ∧ sz n then (if t < c.x.t then 210 else if (fill c.x t c.p c.q).n < n then 213 else 0) else 2
def send (c : Pc) (t n : Int) : Pc := if sendE c t n = 0 then ⟨{ fill c.x t c.p c.q with n := (fill c.x t c.p c.q).n - n }, c.p, c.q⟩ else c
def can (c : Pc) (t n : Int) : Bool := decide (sendE c t n = 0)
def when_ (c : Pc) (n : Int) : Int := if sz n then whn c.x n c.p c.q else -1
def left_ (c : Pc) (t : Int) : Int := if tm t ∧ c.x.t ≤ t then (fill c.x t c.p c.q).n else 0
theorem setE_of {c : Pc} {t w s : Int} (h : setE c t w s = 0) : okS t w s ∧ c.x.t ≤ t := by
  unfold setE at h
  by_cases h1 : okS t w s
  · rw [if_pos h1] at h
    by_cases h2 : t < c.x.t
    · rw [if_pos h2] at h; cases h
    · exact ⟨h1, by omega⟩
  · rw [if_neg h1] at h; cases h
theorem setE_is {c : Pc} {t w s : Int} (h : okS t w s) (h2 : c.x.t ≤ t) : setE c t w s = 0 := by
  unfold setE; rw [if_pos h, if_neg (by omega)]
theorem sendE_of {c : Pc} {t n : Int} (h : sendE c t n = 0) : (tm t ∧ sz n) ∧ c.x.t ≤ t ∧ n ≤ (fill c.x t c.p c.q).n := by
  unfold sendE at h
  by_cases h1 : tm t ∧ sz n
  · rw [if_pos h1] at h
    by_cases h2 : t < c.x.t
    · rw [if_pos h2] at h; cases h
    · rw [if_neg h2] at h
      by_cases h3 : (fill c.x t c.p c.q).n < n
      · rw [if_pos h3] at h; cases h
      · exact ⟨h1, by omega, by omega⟩
  · rw [if_neg h1] at h; cases h
theorem sendE_is {c : Pc} {t n : Int} (h : tm t) (hn : sz n) (h2 : c.x.t ≤ t) (h3 : n ≤ (fill c.x t c.p c.q).n) : sendE c t n = 0 := by
  unfold sendE; rw [if_pos ⟨h, hn⟩, if_neg (by omega), if_neg (by omega)]
theorem sendE_few {c : Pc} {t n : Int} (h : tm t) (hn : sz n) (h2 : c.x.t ≤ t) (h3 : ¬ n ≤ (fill c.x t c.p c.q).n) : sendE c t n = 213 := by
  unfold sendE; rw [if_pos ⟨h, hn⟩, if_neg (by omega), if_pos (by omega)]
theorem set_ok {c : Pc} (h : OkP c) (t w s : Int) : OkP (set_ c t w s) := by
  unfold set_
  split
  · rename_i e
    obtain ⟨⟨h1, h2, h3⟩, h4⟩ := setE_of e
    exact ⟨fill_ok h.x h4 h1.2 h.m, may_den h2 h3⟩
  · exact h
theorem send_ok {c : Pc} (h : OkP c) (t n : Int) : OkP (send c t n) := by
  unfold send
  split
  · rename_i e
    obtain ⟨⟨h1, h2⟩, h3, h4⟩ := sendE_of e
    have o := fill_ok h.x h3 h1.2 h.m
    have := h2.1
    exact ⟨⟨o.b0, o.b1, by show 0 ≤ (fill c.x t c.p c.q).n - n; omega, by have := o.n1; show (fill c.x t c.p c.q).n - n ≤ (fill c.x t c.p c.q).b; omega, o.l0, o.l1, o.q1, o.t⟩, h.m⟩
  · exact h

/-! P14.6: what may go at a time may go at all later ones; when the first one is. -/
theorem fill_mono {x : Bk} (h : Ok x) {t s p q : Int} (ht : x.t ≤ t) (hs : t ≤ s) (hm : may p q) : (fill x t p q).n ≤ (fill x s p q).n := by
  rw [fill_n, fill_n]
  have hq := hm.2.1
  have h1 : all x t p q ≤ all x s p q := by
    have := Int.mul_le_mul_of_nonneg_right (show t - x.t ≤ s - x.t by omega) hm.1.1
    unfold all
    omega
  have := Int.ediv_le_ediv (show 0 < q by omega) h1
  omega
theorem can_later {c : Pc} (h : OkP c) {t s n : Int} (hc : can c t n = true) (hs : t ≤ s) (h1 : s ≤ 9007199254740991) : can c s n = true := by
  obtain ⟨⟨a1, a2⟩, a3, a4⟩ := sendE_of (of_decide_eq_true hc)
  have := fill_mono h.x a3 hs h.m
  exact decide_eq_true (sendE_is ⟨by have := a1.1; omega, h1⟩ a2 (by omega) (by omega))
theorem can_at {c : Pc} (h : OkP c) {t n : Int} (hn : sz n) (hw : when_ c n ≠ -1) (ht : c.x.t ≤ t) (h1 : t ≤ 9007199254740991) : can c t n = decide (when_ c n ≤ t) := by
  unfold when_ at hw ⊢
  rw [if_pos hn] at hw ⊢
  obtain ⟨_, _, _, _, h5⟩ := whn_is h.x hw
  unfold can
  rw [decide_eq_decide]
  constructor
  · intro e
    exact (h5 t ht).1 (sendE_of e).2.2
  · intro e
    exact sendE_is ⟨by have := h.x.t.1; omega, h1⟩ hn ht ((h5 t ht).2 e)
theorem can_never {c : Pc} (h : OkP c) {t n : Int} (hn : sz n) (hw : when_ c n = -1) (ht : c.x.t ≤ t) : can c t n = false := by
  unfold when_ at hw
  rw [if_pos hn] at hw
  refine decide_eq_false (fun e => ?_)
  obtain ⟨⟨a1, a2⟩, a3, a4⟩ := sendE_of e
  by_cases hb : n ≤ c.x.b
  · exact whn_never h.x (by have := hn.1; omega) hb h.m hw a3 a1.2 a4
  · have := fill_n c.x t c.p c.q
    omega

/-! P14.7: of an empty bucket. -/
theorem empty_left {b t p q p' q' : Int} (hq : (p', q') ≠ (p, q) ∨ True) : left ⟨b, 0, 0, t, p', q'⟩ p q = 0 := by
  unfold left; split <;> rfl
theorem empty_n {b t p q p' q' : Int} : (fill ⟨b, 0, 0, 0, p', q'⟩ t p q).n = min b (t * p / q) := by
  rw [fill_n]
  have : all ⟨b, 0, 0, 0, p', q'⟩ t p q = t * p := by
    unfold all
    rw [empty_left (.inr trivial)]
    show (t - 0) * p + 0 = _
    rw [Int.sub_zero, Int.add_zero]
  rw [this]
  show min b (0 + _) = _
  rw [Int.zero_add]
theorem div_den {a q q' : Int} (h0 : 0 ≤ a) (hq : 0 < q) (h : q ≤ q') : a / q' ≤ a / q := by
  have h1 := Int.ediv_nonneg h0 (show 0 ≤ q' by omega)
  refine (Int.le_ediv_iff_mul_le hq).2 ?_
  have h2 := Int.ediv_mul_le a (show q' ≠ 0 by omega)
  have h3 := Int.mul_le_mul_of_nonneg_left h h1
  omega
theorem more_window {b t c d s : Int} (ht : 0 ≤ t) (h : c ≤ d) : min b (t * (5 * c) / den s) ≤ min b (t * (5 * d) / den s) := by
  have hd : 0 < den s := by unfold den; omega
  have := Int.ediv_le_ediv hd (Int.mul_le_mul_of_nonneg_left (show 5 * c ≤ 5 * d by omega) ht)
  omega
theorem more_smooth {b t c s r : Int} (ht : 0 ≤ t) (hc : 0 ≤ c) (h : s ≤ r) : min b (t * (5 * c) / den r) ≤ min b (t * (5 * c) / den s) := by
  have hd : 0 < den s := by unfold den; omega
  have := div_den (Int.mul_nonneg ht (show 0 ≤ 5 * c by omega)) hd (show den s ≤ den r by unfold den; omega)
  omega
/-- PaceSteady: five quarters of the window in each smoothed time. -/
theorem steady {c s k : Int} (hs : 1 ≤ s) (hs1 : 4 * s ≤ 9007199254740991) : s * k * (5 * c) / den s = 5 * c * k / 4 := by
  have e : den s = s * 4 := by unfold den; omega
  rw [e, Int.mul_assoc, Int.mul_ediv_mul_of_pos _ _ (show 0 < s by omega), Int.mul_comm k (5 * c)]

/-! P14.5: what went since a time: S bytes; B: the burst, and what closed pieces let through; m: since when this piece counts. -/
structure Inv (x : Bk) (p q m S B : Int) : Prop where
  le : (S + x.n - B) * q + left x p q ≤ (x.t - m) * p + (q - 1)
  m : m ≤ x.t
theorem inv_fill {x : Bk} (h : Ok x) {p q m S B t : Int} (hi : Inv x p q m S B) (ht : x.t ≤ t) (hm : may p q) : Inv (fill x t p q) p q m S B := by
  have hq := hm.2.1
  have h1 := hi.le
  have h2 := hi.m
  have hA := all_nn h ht hm
  have hd := Int.mul_ediv_add_emod (all x t p q) q
  have hr := Int.emod_nonneg (all x t p q) (show q ≠ 0 by omega)
  have e : (t - m) * p = (x.t - m) * p + (t - x.t) * p := by rw [← Int.add_mul]; congr 1; omega
  have ea : all x t p q = (t - x.t) * p + left x p q := rfl
  refine ⟨?_, by rw [fill_t]; omega⟩
  rw [left_fill, fill_t, e]
  by_cases hf : x.b ≤ x.n + all x t p q / q
  · rw [fill_full hf]
    show (S + x.b - B) * q + 0 ≤ _
    have h3 := Int.mul_le_mul_of_nonneg_right hf (show 0 ≤ q by omega)
    have e1 : (S + x.b - B) * q = (S - B) * q + x.b * q := by rw [← Int.add_mul]; congr 1; omega
    have e2 : (S + x.n - B) * q = (S - B) * q + x.n * q := by rw [← Int.add_mul]; congr 1; omega
    have e3 : (x.n + all x t p q / q) * q = x.n * q + q * (all x t p q / q) := by rw [Int.add_mul, Int.mul_comm (all x t p q / q) q]
    omega
  · rw [fill_less hf]
    show (S + (x.n + all x t p q / q) - B) * q + all x t p q % q ≤ _
    have e1 : (S + (x.n + all x t p q / q) - B) * q = (S + x.n - B) * q + q * (all x t p q / q) := by
      rw [show S + (x.n + all x t p q / q) - B = (S + x.n - B) + all x t p q / q by omega, Int.add_mul, Int.mul_comm (all x t p q / q) q]
    omega
theorem inv_take {x : Bk} {p q m S B k : Int} (hi : Inv x p q m S B) : Inv { x with n := x.n - k } p q m (S + k) B := by
  refine ⟨?_, hi.m⟩
  have h := hi.le
  show (S + k + (x.n - k) - B) * q + left x p q ≤ _
  rw [show S + k + (x.n - k) - B = S + x.n - B by omega]
  exact h
/-- Something goes, of a bucket that is just filled: from here on. -/
theorem inv_new {x : Bk} (h : Ok x) {p q k : Int} (hm : may p q) : Inv { x with n := x.n - k } p q x.t k x.b := by
  refine ⟨?_, Int.le_refl _⟩
  have hl := (left_bd h hm).2
  have h1 := Int.mul_le_mul_of_nonneg_right (show k + (x.n - k) - x.b ≤ 0 by have := h.n1; omega) (show 0 ≤ q by have := hm.2.1; omega)
  show (k + (x.n - k) - x.b) * q + left x p q ≤ (x.t - x.t) * p + (q - 1)
  rw [Int.sub_self, Int.zero_mul]
  omega
/-- What a piece lets through, upwards. -/
def seg (a b p q : Int) : Int := if a < b then up ((b - a) * p) q else 0
theorem inv_seg {x : Bk} (h : Ok x) {p q m S B : Int} (hi : Inv x p q m S B) (hm : may p q) : S + x.n ≤ B + seg m x.t p q := by
  have hq := hm.2.1
  have hl := (left_bd h hm).1
  have h1 := hi.le
  have h2 := hi.m
  unfold seg
  by_cases hlt : m < x.t
  · rw [if_pos hlt]
    have : S + x.n - B ≤ up ((x.t - m) * p) q := by
      unfold up
      refine (Int.le_ediv_iff_mul_le (by omega)).2 ?_
      omega
    omega
  · rw [if_neg hlt]
    have e : x.t - m = 0 := by omega
    rw [e, Int.zero_mul] at h1
    rcases Int.lt_or_le 0 (S + x.n - B) with h3 | h3
    · have := Int.mul_le_mul_of_nonneg_right (show 1 ≤ S + x.n - B by omega) (show 0 ≤ q by omega)
      omega
    · omega
theorem inv_bound {x : Bk} (h : Ok x) {p q m S B : Int} (hi : Inv x p q m S B) (hm : may p q) : S ≤ B + seg m x.t p q := by
  have := inv_seg h hi hm
  have := h.n0
  omega
/-- Another rate, from now on: the piece is closed. -/
theorem inv_set {x : Bk} (h : Ok x) {p q p' q' m S B : Int} (hi : Inv x p q m S B) (hm : may p q) (hm' : may p' q') : Inv x p' q' x.t S (B + seg m x.t p q) := by
  have h1 := inv_seg h hi hm
  have hl := (left_bd h hm').2
  refine ⟨?_, Int.le_refl _⟩
  have h2 := Int.mul_le_mul_of_nonneg_right (show S + x.n - (B + seg m x.t p q) ≤ 0 by omega) (show 0 ≤ q' by have := hm'.2.1; omega)
  rw [Int.sub_self, Int.zero_mul]
  omega

/-! Pieces of time, each from its beginning up to the next one. -/
structure Pi where
  f : Int
  p : Int
  q : Int
deriving DecidableEq, Inhabited
/-- What pieces let through from a to b. -/
def thr : List Pi → Int → Int → Int
  | [], _, _ => 0
  | [c], a, b => seg (max a c.f) b c.p c.q
  | c :: d :: l, a, b => seg (max a c.f) (min b d.f) c.p c.q + thr (d :: l) a b
theorem seg_none {a b p q : Int} (h : b ≤ a) : seg a b p q = 0 := if_neg (by omega)
/-- A piece that begins at b or behind lets nothing through. -/
theorem thr_later (c : Pi) (l : List Pi) (a b : Int) (h : ∀ d ∈ c :: l, b ≤ d.f) : thr (c :: l) a b = 0 := by
  induction l generalizing c with
  | nil => exact seg_none (by have := h c (List.mem_cons_self ..); omega)
  | cons d l ih =>
    show seg _ _ _ _ + thr (d :: l) a b = 0
    rw [ih d (fun e he => h e (List.mem_cons_of_mem _ he)), seg_none (by have := h c (List.mem_cons_self ..); omega)]
    rfl
/-- Pieces that come later count nothing. -/
theorem thr_append (c : Pi) (l r : List Pi) (a b : Int) (h : ∀ d ∈ r, b ≤ d.f) : thr (c :: l ++ r) a b = thr (c :: l) a b := by
  induction l generalizing c with
  | nil =>
    cases r with
    | nil => rfl
    | cons d r =>
      show seg _ (min b d.f) _ _ + thr (d :: r) a b = seg _ b _ _
      rw [thr_later d r a b h, show min b d.f = b by have := h d (List.mem_cons_self ..); omega, Int.add_zero]
  | cons d l ih =>
    show seg _ _ _ _ + thr (d :: l ++ r) a b = seg _ _ _ _ + thr (d :: l) a b
    rw [ih d]
/-- The last one, and those ahead of it: what these let through up to its beginning. -/
theorem thr_last (l : List Pi) (d : Pi) (a b : Int) (hs : ∀ e ∈ l, e.f ≤ d.f) (h : d.f ≤ b) : thr (l ++ [d]) a b = thr l a d.f + seg (max a d.f) b d.p d.q := by
  induction l with
  | nil => show seg _ _ _ _ = 0 + seg _ _ _ _; rw [Int.zero_add]
  | cons c l ih =>
    cases l with
    | nil =>
      show seg _ (min b d.f) _ _ + seg _ _ _ _ = seg _ d.f _ _ + seg _ _ _ _
      rw [show min b d.f = d.f by omega]
    | cons e l =>
      show seg (max a c.f) (min b e.f) c.p c.q + thr (e :: l ++ [d]) a b = seg (max a c.f) (min d.f e.f) c.p c.q + thr (e :: l) a d.f + _
      have he := hs e (List.mem_cons_of_mem _ (List.mem_cons_self ..))
      rw [show min b e.f = e.f by omega, show min d.f e.f = e.f by omega, Int.add_assoc]
      have := ih (fun x hx => hs x (List.mem_cons_of_mem _ hx))
      rw [show e :: l ++ [d] = (e :: l) ++ [d] from rfl, this]

/-- What went since a, in pieces of time of which d is the last one: the walk's invariant. -/
structure Run (x : Bk) (l : List Pi) (d : Pi) (a S burst : Int) : Prop where
  inv : Inv x d.p d.q (max a d.f) S (burst + thr l a d.f)
  a : a ≤ x.t
theorem Run.fill {x : Bk} (h : Ok x) {l : List Pi} {d : Pi} {a S u t : Int} (hr : Run x l d a S u) (ht : x.t ≤ t) (hm : may d.p d.q) : Run (fill x t d.p d.q) l d a S u :=
  ⟨inv_fill h hr.inv ht hm, by rw [fill_t]; have := hr.a; omega⟩
theorem Run.take {x : Bk} {l : List Pi} {d : Pi} {a S u k : Int} (hr : Run x l d a S u) : Run { x with n := x.n - k } l d a (S + k) u := ⟨inv_take hr.inv, hr.a⟩
/-- A first one goes, at the bucket's time. -/
theorem Run.new {x : Bk} (h : Ok x) {l : List Pi} {d : Pi} {k : Int} (hm : may d.p d.q) (hd : d.f ≤ x.t) (hs : ∀ e ∈ l, e.f ≤ d.f) : Run { x with n := x.n - k } l d x.t k x.b := by
  have e0 : thr l x.t d.f = 0 := by
    clear hs
    induction l with
    | nil => rfl
    | cons c l ih =>
      cases l with
      | nil => exact seg_none (by omega)
      | cons e l =>
        show seg _ _ _ _ + thr (e :: l) x.t d.f = 0
        rw [ih, seg_none (by omega)]
        rfl
  refine ⟨?_, Int.le_refl _⟩
  rw [e0, Int.add_zero, show max x.t d.f = x.t by omega]
  exact inv_new h hm
/-- The bucket stands at t; from t on there is another rate. -/
theorem Run.set_ {x : Bk} (h : Ok x) {l : List Pi} {d d' : Pi} {a S u : Int} (hr : Run x l d a S u) (hm : may d.p d.q) (hm' : may d'.p d'.q) (hd : d.f ≤ x.t) (hd' : d'.f = x.t) (hs : ∀ e ∈ l, e.f ≤ d.f) : Run x (l ++ [d]) d' a S u := by
  have h1 := inv_set h hr.inv hm hm'
  refine ⟨?_, hr.a⟩
  rw [hd', show max a x.t = x.t by have := hr.a; omega, thr_last l d a x.t hs hd, ← Int.add_assoc]
  exact h1
/-- What went is at most what may go: whatever pieces come later. -/
theorem Run.bound {x : Bk} (h : Ok x) {l r : List Pi} {d : Pi} {a S u : Int} (hr : Run x l d a S u) (hm : may d.p d.q) (hd : d.f ≤ x.t) (hs : ∀ e ∈ l, e.f ≤ d.f) (hl : ∀ e ∈ r, x.t ≤ e.f) : S ≤ u + thr (l ++ [d] ++ r) a x.t := by
  have h1 := inv_bound h hr.inv hm
  have h2 : thr (l ++ [d] ++ r) a x.t = thr (l ++ [d]) a x.t := by
    cases l with
    | nil => exact thr_append d [] r a x.t hl
    | cons c l => exact thr_append c (l ++ [d]) r a x.t hl
  rw [h2, thr_last l d a x.t hs hd, ← Int.add_assoc]
  exact h1
end Go.Proofs.Ytbnbhembnefndaa.PacM
