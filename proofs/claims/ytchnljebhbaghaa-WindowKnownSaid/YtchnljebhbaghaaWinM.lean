/-
  Plain mathematics of congestion windows: which ones may be, what becomes of one behind an acknowledgement, a bad thing, a collapse; that it stays one that may be; how it grows. Nothing here speaks of a program.
-/
import Derived.Test.YtchnljebhbaghaaWord
namespace Go.Proofs.Ytchnljebhbaghaa.WinM
set_option linter.unusedSimpArgs false
set_option linter.unusedVariables false

/-- Datagram, Most, Cwnd, Thresh, Start, Got. -/
structure Wn where
  d : Int
  m : Int
  c : Int
  t : Int
  s : Int
  g : Int
deriving DecidableEq, Inhabited
theorem Wn.ext' {a b : Wn} (h1 : a.d = b.d) (h2 : a.m = b.m) (h3 : a.c = b.c) (h4 : a.t = b.t) (h5 : a.s = b.s) (h6 : a.g = b.g) : a = b := by
  cases a; cases b; simp_all
def zero : Wn := ⟨0, 0, 0, 0, 0, 0⟩
def tm (n : Int) : Prop := 0 ≤ n ∧ n ≤ 9007199254740991
instance (n : Int) : Decidable (tm n) := by unfold tm; infer_instance
/-- Which windows may be. -/
structure Ok (w : Wn) : Prop where
  d0 : 1200 ≤ w.d
  d1 : w.d ≤ 65527
  m0 : 2 * w.d ≤ w.m
  m1 : w.m ≤ 1099511627776
  c0 : 2 * w.d ≤ w.c
  c1 : w.c ≤ w.m
  t : w.t = -1 ∨ (w.d ≤ w.t ∧ w.t ≤ w.m)
  s : w.s = -1 ∨ tm w.s
  g0 : 0 ≤ w.g
  g1 : w.g < w.c
instance (w : Wn) : Decidable (Ok w) := decidable_of_iff (1200 ≤ w.d ∧ w.d ≤ 65527 ∧ 2 * w.d ≤ w.m ∧ w.m ≤ 1099511627776 ∧ 2 * w.d ≤ w.c ∧ w.c ≤ w.m ∧ (w.t = -1 ∨ (w.d ≤ w.t ∧ w.t ≤ w.m)) ∧ (w.s = -1 ∨ tm w.s) ∧ 0 ≤ w.g ∧ w.g < w.c)
  ⟨fun ⟨a, b, c, d, e, f, g, h, i, j⟩ => ⟨a, b, c, d, e, f, g, h, i, j⟩, fun h => ⟨h.d0, h.d1, h.m0, h.m1, h.c0, h.c1, h.t, h.s, h.g0, h.g1⟩⟩
def chk (w : Wn) : Int := if Ok w then 0 else 2
theorem chk_ok {w : Wn} (h : Ok w) : chk w = 0 := if_pos h
theorem chk_no {w : Wn} (h : ¬ Ok w) : chk w = 2 := if_neg h
theorem chk_zero {w : Wn} (h : chk w = 0) : Ok w := by
  unfold chk at h
  split at h
  · assumption
  · cases h
theorem chk_two {w : Wn} (h : ¬ chk w = 0) : chk w = 2 ∧ ¬ Ok w := by
  unfold chk at *
  split at h
  · exact absurd rfl h
  · rename_i h'; exact ⟨if_neg h', h'⟩

/-- A first window. -/
def first (d f m : Int) : Wn := ⟨d, m, f, -1, -1, 0⟩
def newW (d f m : Int) : Wn := if Ok (first d f m) then first d f m else zero
def newE (d f m : Int) : Int := chk (first d f m)
/-- Is it slow? -/
def slowB (w : Wn) : Bool := decide (Ok w) && decide (w.t = -1 ∨ w.c < w.t)
theorem slow_ok {w : Wn} (h : Ok w) : slowB w = decide (w.t = -1 ∨ w.c < w.t) := by unfold slowB; rw [decide_eq_true h]; rfl
theorem slow_no {w : Wn} (h : ¬ Ok w) : slowB w = false := by unfold slowB; rw [decide_eq_false h]; rfl
/-- Is a time after the recovery start? -/
def behindB (w : Wn) (sent : Int) : Bool := decide (w.s = -1 ∨ w.s < sent)

/-- What was got is taken off, and the window grows, as often as it goes. -/
def grow (d m c g : Int) : Int × Int := if h : 0 < c ∧ c ≤ g then grow d m (min (c + d) m) (g - c) else (c, g)
termination_by g.toNat
decreasing_by omega
theorem grow_no {d m c g : Int} (h : ¬ c ≤ g) : grow d m c g = (c, g) := by
  rw [grow, dif_neg (fun h' => h h'.2)]
theorem grow_yes {d m c g : Int} (h0 : 0 < c) (h : c ≤ g) : grow d m c g = grow d m (min (c + d) m) (g - c) := by
  conv => lhs; rw [grow]
  rw [dif_pos ⟨h0, h⟩]
/-- What has grown so is no less, within bounds, and less is left than it has. -/
theorem grow_bd {d m : Int} (hd : 0 ≤ d) : ∀ (n : Nat) (c g : Int), g.toNat ≤ n → 0 < c → c ≤ m → 0 ≤ g → c ≤ (grow d m c g).1 ∧ (grow d m c g).1 ≤ m ∧ 0 ≤ (grow d m c g).2 ∧ (grow d m c g).2 < (grow d m c g).1 := by
  intro n
  induction n with
  | zero =>
    intro c g hn h0 h1 h2
    rw [grow_no (by omega)]
    exact ⟨Int.le_refl _, h1, h2, by show g < c; omega⟩
  | succ n ih =>
    intro c g hn h0 h1 h2
    by_cases h : c ≤ g
    · rw [grow_yes h0 h]
      have := ih (min (c + d) m) (g - c) (by omega) (by omega) (by omega) (by omega)
      exact ⟨by omega, this.2⟩
    · rw [grow_no h]
      exact ⟨Int.le_refl _, h1, h2, by show g < c; omega⟩
theorem grow_all {d m c g : Int} (hd : 0 ≤ d) (h0 : 0 < c) (h1 : c ≤ m) (h2 : 0 ≤ g) : c ≤ (grow d m c g).1 ∧ (grow d m c g).1 ≤ m ∧ 0 ≤ (grow d m c g).2 ∧ (grow d m c g).2 < (grow d m c g).1 := grow_bd hd g.toNat c g (Nat.le_refl _) h0 h1 h2
theorem grow_one {d m c : Int} (hd : 0 ≤ d) (h0 : 0 < c) (h1 : c ≤ m) : grow d m c c = (min (c + d) m, 0) := by
  rw [grow_yes h0 (Int.le_refl _), show c - c = 0 by omega, grow_no (by omega)]

/-- Behind an acknowledgement. -/
def up (w : Wn) (z : Int) : Wn := if slowB w = true then { w with c := min (w.c + z) w.m } else { w with c := (grow w.d w.m w.c (w.g + z)).1, g := (grow w.d w.m w.c (w.g + z)).2 }
def ackE (w : Wn) (a z : Int) : Int := if Ok w then (if tm a ∧ 1 ≤ z ∧ z ≤ 65535 then 0 else 9) else 2
def ackW (w : Wn) (a z : Int) (full : Bool) : Wn := if ackE w a z = 0 then (if (behindB w a && full) = true then up w z else w) else zero
/-- Behind a bad thing. -/
def down (w : Wn) (now : Int) : Wn := { w with c := max (w.c / 2) (2 * w.d), t := w.c / 2, s := now, g := 0 }
def badE (w : Wn) (a now : Int) : Int := if Ok w then (if tm a ∧ tm now then 0 else 9) else 2
def badW (w : Wn) (a now : Int) : Wn := if badE w a now = 0 then (if behindB w a = true then down w now else w) else zero
/-- Behind a collapse. -/
def low (w : Wn) : Wn := { w with c := 2 * w.d, s := -1, g := 0 }
def colW (w : Wn) : Wn := if Ok w then low w else zero

theorem ackE_ok {w : Wn} {a z : Int} (h : Ok w) (ha : tm a) (h1 : 1 ≤ z) (h2 : z ≤ 65535) : ackE w a z = 0 := by unfold ackE; rw [if_pos h, if_pos ⟨ha, h1, h2⟩]
theorem ackE_arg {w : Wn} {a z : Int} (h : ¬ Ok w) : ackE w a z = 2 := if_neg h
theorem ackE_rng {w : Wn} {a z : Int} (h : Ok w) (h2 : ¬ (tm a ∧ 1 ≤ z ∧ z ≤ 65535)) : ackE w a z = 9 := by unfold ackE; rw [if_pos h, if_neg h2]
theorem ackE_zero {w : Wn} {a z : Int} (h : ackE w a z = 0) : Ok w ∧ tm a ∧ 1 ≤ z ∧ z ≤ 65535 := by
  unfold ackE at h
  split at h
  · rename_i h1
    split at h
    · rename_i h2; exact ⟨h1, h2⟩
    · cases h
  · cases h
theorem badE_ok {w : Wn} {a n : Int} (h : Ok w) (ha : tm a) (hn : tm n) : badE w a n = 0 := by unfold badE; rw [if_pos h, if_pos ⟨ha, hn⟩]
theorem badE_arg {w : Wn} {a n : Int} (h : ¬ Ok w) : badE w a n = 2 := if_neg h
theorem badE_rng {w : Wn} {a n : Int} (h : Ok w) (h2 : ¬ (tm a ∧ tm n)) : badE w a n = 9 := by unfold badE; rw [if_pos h, if_neg h2]
theorem badE_zero {w : Wn} {a n : Int} (h : badE w a n = 0) : Ok w ∧ tm a ∧ tm n := by
  unfold badE at h
  split at h
  · rename_i h1
    split at h
    · rename_i h2; exact ⟨h1, h2⟩
    · cases h
  · cases h

/-! P11.3: what may be stays so. -/
theorem up_ok {w : Wn} (h : Ok w) {z : Int} (hz : 0 ≤ z) : Ok (up w z) ∧ w.c ≤ (up w z).c ∧ (up w z).t = w.t ∧ (up w z).s = w.s ∧ (up w z).d = w.d ∧ (up w z).m = w.m := by
  obtain ⟨h1, h2, h3, h4, h5, h6, h7, h8, h9, h10⟩ := h
  unfold up
  split
  · exact ⟨⟨h1, h2, h3, h4, by show 2 * w.d ≤ min (w.c + z) w.m; omega, by show min (w.c + z) w.m ≤ w.m; omega, h7, h8, h9, by show w.g < min (w.c + z) w.m; omega⟩, by show w.c ≤ min (w.c + z) w.m; omega, rfl, rfl, rfl, rfl⟩
  · obtain ⟨g1, g2, g3, g4⟩ := grow_all (d := w.d) (m := w.m) (c := w.c) (g := w.g + z) (by omega) (by omega) h6 (by omega)
    exact ⟨⟨h1, h2, h3, h4, Int.le_trans h5 g1, g2, h7, h8, g3, g4⟩, g1, rfl, rfl, rfl, rfl⟩
theorem down_ok {w : Wn} (h : Ok w) {now : Int} (hn : tm now) : Ok (down w now) := by
  obtain ⟨h1, h2, h3, h4, h5, h6, h7, h8, h9, h10⟩ := h
  exact ⟨h1, h2, h3, h4, by show 2 * w.d ≤ max (w.c / 2) (2 * w.d); omega, by show max (w.c / 2) (2 * w.d) ≤ w.m; omega, .inr ⟨by show w.d ≤ w.c / 2; omega, by show w.c / 2 ≤ w.m; omega⟩, .inr hn, Int.le_refl _, by show 0 < max (w.c / 2) (2 * w.d); omega⟩
theorem low_ok {w : Wn} (h : Ok w) : Ok (low w) := by
  obtain ⟨h1, h2, h3, h4, h5, h6, h7, h8, h9, h10⟩ := h
  exact ⟨h1, h2, h3, h4, Int.le_refl _, by show 2 * w.d ≤ w.m; omega, h7, .inl rfl, Int.le_refl _, by show 0 < 2 * w.d; omega⟩
theorem ack_ok {w : Wn} {a z : Int} {full : Bool} (h : Ok w) (ha : tm a) (h1 : 1 ≤ z) (h2 : z ≤ 65535) : Ok (ackW w a z full) ∧ w.c ≤ (ackW w a z full).c ∧ (ackW w a z full).t = w.t ∧ (ackW w a z full).s = w.s ∧ (ackW w a z full).d = w.d ∧ (ackW w a z full).m = w.m := by
  unfold ackW
  rw [if_pos (ackE_ok h ha h1 h2)]
  split
  · exact up_ok h (by omega)
  · exact ⟨h, Int.le_refl _, rfl, rfl, rfl, rfl⟩
theorem ack_idle {w : Wn} {a z : Int} (h : Ok w) (ha : tm a) (h1 : 1 ≤ z) (h2 : z ≤ 65535) : ackW w a z false = w := by
  unfold ackW
  rw [if_pos (ackE_ok h ha h1 h2), if_neg (by simp)]
theorem bad_ok {w : Wn} {a n : Int} (h : Ok w) (ha : tm a) (hn : tm n) : Ok (badW w a n) ∧ (badW w a n).d = w.d ∧ (badW w a n).m = w.m := by
  unfold badW
  rw [if_pos (badE_ok h ha hn)]
  split
  · exact ⟨down_ok h hn, rfl, rfl⟩
  · exact ⟨h, rfl, rfl⟩
theorem col_ok {w : Wn} (h : Ok w) : colW w = low w ∧ Ok (low w) := ⟨if_pos h, low_ok h⟩

/-! P11.4: behind a bad thing. -/
theorem behind_no {w : Wn} {a : Int} (h0 : w.s ≠ -1) (h : a ≤ w.s) : behindB w a = false := by unfold behindB; exact decide_eq_false (by omega)
theorem bad_far {w : Wn} {a n : Int} (h : Ok w) (ha : tm a) (hn : tm n) (hb : behindB w a = false) : badW w a n = w := by
  unfold badW; rw [if_pos (badE_ok h ha hn), if_neg (by rw [hb]; decide)]
theorem ack_far {w : Wn} {a z : Int} {full : Bool} (h : Ok w) (ha : tm a) (h1 : 1 ≤ z) (h2 : z ≤ 65535) (hb : behindB w a = false) : ackW w a z full = w := by
  unfold ackW; rw [if_pos (ackE_ok h ha h1 h2), if_neg (by rw [hb]; simp)]
theorem bad_near {w : Wn} {a n : Int} (h : Ok w) (ha : tm a) (hn : tm n) (hb : behindB w a = true) : badW w a n = down w n := by
  unfold badW; rw [if_pos (badE_ok h ha hn), if_pos hb]
theorem ack_near {w : Wn} {a z : Int} (h : Ok w) (ha : tm a) (h1 : 1 ≤ z) (h2 : z ≤ 65535) (hb : behindB w a = true) : ackW w a z true = up w z := by
  unfold ackW; rw [if_pos (ackE_ok h ha h1 h2), if_pos (by rw [hb]; rfl)]

/-! P11.5: how it grows. -/
theorem up_slow {w : Wn} (h : Ok w) (ht : w.t = -1) (z : Int) : up w z = { w with c := min (w.c + z) w.m } := by
  unfold up; rw [if_pos (by rw [slow_ok h]; exact decide_eq_true (.inl ht))]
theorem up_past {w : Wn} (h : Ok w) (ht : w.t ≠ -1) (hc : w.t ≤ w.c) (z : Int) : up w z = { w with c := (grow w.d w.m w.c (w.g + z)).1, g := (grow w.d w.m w.c (w.g + z)).2 } := by
  unfold up; rw [if_neg (by rw [slow_ok h, decide_eq_false (by omega)]; decide)]
/-- One that is not slow: less than is missing. -/
theorem up_less {w : Wn} (h : Ok w) (ht : w.t ≠ -1) (hc : w.t ≤ w.c) {z : Int} (hz : w.g + z < w.c) : up w z = { w with g := w.g + z } := by
  rw [up_past h ht hc, grow_no (by omega)]
/-- Just what is missing. -/
theorem up_full {w : Wn} (h : Ok w) (ht : w.t ≠ -1) (hc : w.t ≤ w.c) {z : Int} (hz : w.g + z = w.c) : up w z = { w with c := min (w.c + w.d) w.m, g := 0 } := by
  have := h.c0
  have := h.d0
  rw [up_past h ht hc, hz, grow_one (by omega) (by omega) h.c1]
/-- A first window that was acknowledged in part. -/
def half (d m c r : Int) : Wn := ⟨d, m, min (c + r) m, -1, -1, 0⟩
theorem half_up {d m c r z : Int} (h : Ok (half d m c r)) (hz : 0 ≤ z) : up (half d m c r) z = half d m c (r + z) := by
  rw [up_slow h rfl]
  unfold half
  simp only [Wn.mk.injEq, true_and, and_true]
  omega
theorem half_ok {d m c r : Int} (h : Ok (first d c m)) (hr : 0 ≤ r) : Ok (half d m c r) := by
  obtain ⟨h1, h2, h3, h4, h5, h6, h7, h8, h9, h10⟩ := h
  unfold first at *
  simp only at *
  exact ⟨h1, h2, h3, h4, by show 2 * d ≤ min (c + r) m; omega, by show min (c + r) m ≤ m; omega, .inl rfl, .inl rfl, Int.le_refl _, by show 0 < min (c + r) m; omega⟩
theorem half_zero {d m c : Int} (h : c ≤ m) : half d m c 0 = first d c m := by unfold half first; rw [Int.add_zero, Int.min_eq_left h]
/-- A window behind a first bad thing, of which some was acknowledged. -/
def past (d m c g : Int) : Wn := ⟨d, m, max (c / 2) (2 * d), c / 2, 0, g⟩
theorem past_new {d m c : Int} (h : Ok (first d c m)) : badW (first d c m) 0 0 = past d m c 0 := by
  rw [bad_near h ⟨Int.le_refl _, by decide⟩ ⟨Int.le_refl _, by decide⟩ (decide_eq_true (.inl rfl))]
  rfl
theorem past_ok {d m c g : Int} (h : Ok (first d c m)) (h0 : 0 ≤ g) (h1 : g < max (c / 2) (2 * d)) : Ok (past d m c g) := by
  obtain ⟨k1, k2, k3, k4, k5, k6, k7, k8, k9, k10⟩ := h
  unfold first at *
  simp only at *
  exact ⟨k1, k2, k3, k4, by show 2 * d ≤ max (c / 2) (2 * d); omega, by show max (c / 2) (2 * d) ≤ m; omega, .inr ⟨by show d ≤ c / 2; omega, by show c / 2 ≤ m; omega⟩, .inr ⟨Int.le_refl _, by show (0 : Int) ≤ 9007199254740991; decide⟩, h0, h1⟩
theorem past_slow {d m c g : Int} (h : Ok (past d m c g)) (hc : 2 * d ≤ c) : slowB (past d m c g) = false := by
  rw [slow_ok h]
  have h1 := h.t
  have h2 := h.d0
  refine decide_eq_false ?_
  unfold past at *
  simp only at *
  omega
theorem past_less {d m c g z : Int} (h : Ok (past d m c g)) (hc : 2 * d ≤ c) (hz : g + z < max (c / 2) (2 * d)) : up (past d m c g) z = past d m c (g + z) := by
  have h1 := h.t
  have h2 := h.d0
  have e := up_less (w := past d m c g) h (by unfold past at *; simp only at *; omega) (by unfold past at *; simp only at *; omega) (z := z) hz
  rw [e]; rfl
theorem past_full {d m c g z : Int} (h : Ok (past d m c g)) (hc : 2 * d ≤ c) (hz : g + z = max (c / 2) (2 * d)) : up (past d m c g) z = ⟨d, m, min (max (c / 2) (2 * d) + d) m, c / 2, 0, 0⟩ := by
  have h1 := h.t
  have h2 := h.d0
  have e := up_full (w := past d m c g) h (by unfold past at *; simp only at *; omega) (by unfold past at *; simp only at *; omega) (z := z) hz
  rw [e]; rfl

/-! The laws' first window and steps. -/
def madeD (x : Int) : Int := 1200 + x % 64328
def madeM (x z : Int) : Int := 2 * madeD x + z % (1099511627776 - 2 * madeD x + 1)
def madeC (x y z : Int) : Int := 2 * madeD x + y % (madeM x z - 2 * madeD x + 1)
def made (x y z : Int) : Wn := first (madeD x) (madeC x y z) (madeM x z)
theorem madeD_bd (x : Int) : 1200 ≤ madeD x ∧ madeD x ≤ 65527 := by
  have h1 := Int.emod_nonneg x (show (64328 : Int) ≠ 0 by omega)
  have h2 := Int.emod_lt_of_pos x (show (0 : Int) < 64328 by omega)
  unfold madeD; omega
theorem madeM_bd (x z : Int) : 2 * madeD x ≤ madeM x z ∧ madeM x z ≤ 1099511627776 := by
  have h := madeD_bd x
  unfold madeM
  generalize madeD x = d at *
  have h1 := Int.emod_nonneg z (show (1099511627776 - 2 * d + 1 : Int) ≠ 0 by omega)
  have h2 := Int.emod_lt_of_pos z (show (0 : Int) < 1099511627776 - 2 * d + 1 by omega)
  omega
theorem madeC_bd (x y z : Int) : 2 * madeD x ≤ madeC x y z ∧ madeC x y z ≤ madeM x z := by
  have h := madeD_bd x
  have h' := madeM_bd x z
  unfold madeC
  generalize madeD x = d at *
  generalize madeM x z = m at *
  have h1 := Int.emod_nonneg y (show (m - 2 * d + 1 : Int) ≠ 0 by omega)
  have h2 := Int.emod_lt_of_pos y (show (0 : Int) < m - 2 * d + 1 by omega)
  omega
theorem made_ok (x y z : Int) : Ok (made x y z) := by
  have h1 := madeD_bd x
  have h2 := madeM_bd x z
  have h3 := madeC_bd x y z
  unfold made first
  exact ⟨h1.1, h1.2, h2.1, h2.2, h3.1, h3.2, .inl rfl, .inl rfl, Int.le_refl _, by show 0 < madeC x y z; omega⟩
/-- What happens: its kind, a time, now, a size, whether it was full. -/
structure Do where
  k : Int
  a : Int
  n : Int
  z : Int
  f : Bool
deriving Inhabited
def stepW (w : Wn) (x : Do) : Wn :=
  if x.k % 8 = 5 ∨ x.k % 8 = 6 then badW w (x.a % 9007199254740992) (x.n % 9007199254740992)
  else if x.k % 8 = 7 then colW w
  else ackW w (x.a % 9007199254740992) (1 + x.z % 65535) x.f
theorem tm_mod (a : Int) : tm (a % 9007199254740992) := by
  have h1 := Int.emod_nonneg a (show (9007199254740992 : Int) ≠ 0 by omega)
  have h2 := Int.emod_lt_of_pos a (show (0 : Int) < 9007199254740992 by omega)
  unfold tm; omega
theorem size_mod (z : Int) : 1 ≤ 1 + z % 65535 ∧ 1 + z % 65535 ≤ 65535 := by
  have h1 := Int.emod_nonneg z (show (65535 : Int) ≠ 0 by omega)
  have h2 := Int.emod_lt_of_pos z (show (0 : Int) < 65535 by omega)
  omega
theorem step_ok {w : Wn} (h : Ok w) (x : Do) : Ok (stepW w x) ∧ (stepW w x).d = w.d ∧ (stepW w x).m = w.m := by
  unfold stepW
  split
  · exact bad_ok h (tm_mod _) (tm_mod _)
  · split
    · rw [(col_ok h).1]; exact ⟨low_ok h, rfl, rfl⟩
    · have := ack_ok (full := x.f) h (tm_mod x.a) (size_mod x.z).1 (size_mod x.z).2
      exact ⟨this.1, this.2.2.2.2.1, this.2.2.2.2.2⟩
/-- Behind some steps. -/
def runs (w : Wn) (l : List Do) : Wn := l.foldl stepW w
theorem runs_snoc (w : Wn) (l : List Do) (x : Do) : runs w (l ++ [x]) = stepW (runs w l) x := by unfold runs; rw [List.foldl_append]; rfl
theorem runs_ok {w : Wn} (h : Ok w) (l : List Do) : Ok (runs w l) ∧ (runs w l).d = w.d ∧ (runs w l).m = w.m := by
  induction l generalizing w with
  | nil => exact ⟨h, rfl, rfl⟩
  | cons x l ih =>
    have h1 := step_ok h x
    have h2 := ih h1.1
    exact ⟨h2.1, h2.2.1.trans h1.2.1, h2.2.2.trans h1.2.2⟩

/-! The chapter's examples. -/
theorem ex : newE 1200 12000 20000 = 0 ∧ newW 1200 12000 20000 = ⟨1200, 20000, 12000, -1, -1, 0⟩ ∧ slowB ⟨1200, 20000, 12000, -1, -1, 0⟩ = true ∧ ackW ⟨1200, 20000, 12000, -1, -1, 0⟩ 5 1200 false = ⟨1200, 20000, 12000, -1, -1, 0⟩ ∧
    ackW ⟨1200, 20000, 12000, -1, -1, 0⟩ 5 1200 true = ⟨1200, 20000, 13200, -1, -1, 0⟩ ∧ badW ⟨1200, 20000, 13200, -1, -1, 0⟩ 5 40 = ⟨1200, 20000, 6600, 6600, 40, 0⟩ ∧ badW ⟨1200, 20000, 6600, 6600, 40, 0⟩ 40 60 = ⟨1200, 20000, 6600, 6600, 40, 0⟩ ∧
    ackW ⟨1200, 20000, 6600, 6600, 40, 0⟩ 41 5000 true = ⟨1200, 20000, 6600, 6600, 40, 5000⟩ := by
  refine ⟨by decide, by decide, by decide, by decide, by decide, by decide, by decide, ?_⟩
  rw [ack_near (by decide) (by decide) (by decide) (by decide) (by decide), up_less (by decide) (by decide) (by decide) (by decide)]
  rfl

end Go.Proofs.Ytchnljebhbaghaa.WinM
