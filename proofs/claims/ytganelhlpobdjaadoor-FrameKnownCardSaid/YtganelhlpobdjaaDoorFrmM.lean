/-
  Plain mathematics of ACKs: which may be, their numbers, their bytes, what is read of bytes. Nothing here speaks of a program.
-/
import Derived.Test.YtganelhlpobdjaaDoorOctX
import Derived.Test.YtganelhlpobdjaaDoorSpnM
namespace Go.Proofs.YtganelhlpobdjaaDoor.FrmM
open OctM Oct SpnM
set_option linter.unusedSimpArgs false
set_option linter.unusedVariables false

/-- An ACK's parts: delay, ranges, whether it is marked, its three marks. -/
structure Ack where
  delay : Int
  ranges : List R
  marked : Bool
  m0 : Int
  m1 : Int
  m2 : Int
theorem Ack.ext' {a b : Ack} (h1 : a.delay = b.delay) (h2 : a.ranges = b.ranges) (h3 : a.marked = b.marked) (h4 : a.m0 = b.m0) (h5 : a.m1 = b.m1) (h6 : a.m2 = b.m2) : a = b := by
  cases a; cases b; simp_all
def zero : Ack := ⟨0, [], false, 0, 0, 0⟩

/-- How great Hi may be behind a range. -/
def under (x : R) : Int := IntKind.i64.wrap (x.1 - 2)
/-- Each range, with how great its Hi may be. -/
def tops (top : Int) : List R → List (Int × R)
  | [] => []
  | x :: t => (top, x) :: tops (under x) t
theorem tops_length (l : List R) : ∀ top, (tops top l).length = l.length := by
  induction l with
  | nil => intro top; rfl
  | cons x t ih => intro top; simp [tops, ih]
/-- Where one stands behind so many ranges. -/
def topAt (top : Int) (l : List R) : Int := match l.getLast? with | none => top | some x => under x
theorem topAt_nil (top : Int) : topAt top [] = top := rfl
theorem topAt_snoc (top : Int) (l : List R) (x : R) : topAt top (l ++ [x]) = under x := by simp [topAt]
theorem tops_append (l : List R) : ∀ (top : Int) (m : List R), tops top (l ++ m) = tops top l ++ tops (topAt top l) m := by
  induction l with
  | nil => intro top m; rfl
  | cons x t ih =>
    intro top m
    have e : topAt top (x :: t) = topAt (under x) t := by
      cases t with
      | nil => rfl
      | cons y u => simp [topAt, List.getLast?_cons_cons]; cases h : (y :: u).getLast? <;> simp_all
    simp [tops, ih, e]
theorem tops_snoc (l : List R) (top : Int) (x : R) : tops top (l ++ [x]) = tops top l ++ [(topAt top l, x)] := by rw [tops_append]; rfl

/-- May a range stand there? -/
def fits (p : Int × R) : Prop := 0 ≤ p.2.1 ∧ p.2.1 ≤ p.2.2 ∧ p.2.2 ≤ p.1
instance (p : Int × R) : Decidable (fits p) := by unfold fits; infer_instance
def falls (top : Int) (l : List R) : Prop := ∀ p ∈ tops top l, fits p
instance (top : Int) (l : List R) : Decidable (falls top l) := by unfold falls; infer_instance
theorem falls_nil (top : Int) : falls top [] := by intro p h; cases h
theorem falls_cons (top : Int) (x : R) (t : List R) : falls top (x :: t) ↔ fits (top, x) ∧ falls (under x) t := by
  unfold falls; simp [tops]
theorem under_eq {top : Int} {x : R} (ht : top ≤ M) (h : fits (top, x)) : under x = x.1 - 2 := by
  obtain ⟨h1, h2, h3⟩ := h
  unfold M at ht
  simp only at h1 h2 h3
  unfold under
  rw [IntKind.wrap_i64]
  omega

def Marks (a : Ack) : Prop := num a.m0 ∧ num a.m1 ∧ num a.m2 ∧ (a.marked = false → a.m0 = 0 ∧ a.m1 = 0 ∧ a.m2 = 0)
instance (a : Ack) : Decidable (Marks a) := by unfold Marks; infer_instance
/-- Which ACKs may be. -/
def Valid (a : Ack) : Prop := (1 ≤ a.ranges.length ∧ a.ranges.length ≤ 256 ∧ num a.delay) ∧ falls M a.ranges ∧ Marks a
instance (a : Ack) : Decidable (Valid a) := by unfold Valid; infer_instance
def check (a : Ack) : Int := if Valid a then 0 else 2
theorem check_ok {a : Ack} (h : Valid a) : check a = 0 := if_pos h
theorem check_not {a : Ack} (h : ¬ Valid a) : check a = 2 := if_neg h
theorem check_zero {a : Ack} (h : check a = 0) : Valid a := by
  unfold check at h; split at h
  · assumption
  · cases h

/-- A number's bytes. -/
def en (n : Int) : List Int := enc n (size n).toNat
def encs (l : List Int) : List Int := l.flatMap en
theorem encs_nil : encs [] = [] := rfl
theorem encs_cons (n : Int) (l : List Int) : encs (n :: l) = en n ++ encs l := rfl
theorem encs_append (l m : List Int) : encs (l ++ m) = encs l ++ encs m := by simp [encs]
/-- The numbers of ranges behind the first one. -/
def steps (ps : List (Int × R)) : List Int := ps.flatMap fun p => [p.1 - p.2.2, p.2.2 - p.2.1]
theorem steps_cons (p : Int × R) (l : List (Int × R)) : steps (p :: l) = (p.1 - p.2.2) :: (p.2.2 - p.2.1) :: steps l := rfl
theorem steps_append (l m : List (Int × R)) : steps (l ++ m) = steps l ++ steps m := by simp [steps]
def marks (a : Ack) : List Int := if a.marked then [a.m0, a.m1, a.m2] else []
def first (a : Ack) : R := a.ranges.headD (0, 0)
def others (a : Ack) : List (Int × R) := tops (under (first a)) a.ranges.tail
/-- An ACK's numbers. -/
def nums (a : Ack) : List Int := [(first a).2, a.delay, (a.ranges.length : Int) - 1, (first a).2 - (first a).1] ++ steps (others a) ++ marks a
def kind (a : Ack) : Int := if a.marked then 3 else 2
def bytes (a : Ack) : List Int := kind a :: encs (nums a)
def bytesOut (a : Ack) : List Int := if Valid a then bytes a else []

theorem size_num {n : Int} (h : num n) : size n ≠ 0 := by
  intro h0; rcases (size_zero n).1 h0 with h1 | h1 <;> unfold num M at h <;> omega
theorem en_length {n : Int} (h : num n) : 1 ≤ (en n).length ∧ (en n).length ≤ 8 := by
  unfold en; rw [enc_length]; rcases size_four_of n (size_num h) with h | h | h | h <;> omega
theorem en_le (n : Int) : (en n).length ≤ 8 := by
  unfold en; rw [enc_length]; have := size_bd n; omega
theorem encs_le (l : List Int) : (encs l).length ≤ 8 * l.length := by
  induction l with
  | nil => simp [encs]
  | cons n t ih => rw [encs_cons, List.length_append, List.length_cons]; have := en_le n; omega
theorem steps_length (l : List (Int × R)) : (steps l).length = 2 * l.length := by
  induction l with
  | nil => rfl
  | cons p t ih => rw [steps_cons]; simp [ih]; omega
theorem nums_length (a : Ack) (h : 1 ≤ a.ranges.length) : (nums a).length ≤ 5 + 2 * a.ranges.length := by
  unfold nums others marks
  rw [List.length_append, List.length_append, steps_length, tops_length]
  split <;> simp <;> omega
theorem bytes_length {a : Ack} (h : Valid a) : 1 ≤ (bytes a).length ∧ (bytes a).length ≤ 4137 := by
  have h1 := encs_le (nums a)
  have h2 := nums_length a h.1.1
  have h3 := h.1.2.1
  unfold bytes
  rw [List.length_cons]
  omega

/-- Reading a number: what it is, what is left, which error there is. -/
def nx (l : List Int) : List Int := l.drop (dlen l).toNat
theorem rd_en {n : Int} (h : num n) (rest : List Int) : derr (en n ++ rest) = 0 ∧ dnum (en n ++ rest) = n ∧ nx (en n ++ rest) = rest := by
  have hz := size_num h
  obtain ⟨a, b, c⟩ := size_le n (size n) (size_four_of n hz) hz (Int.le_refl _)
  obtain ⟨d, e, f⟩ := back n (size n) rest (size_four_of n hz) a b c
  refine ⟨d, e, ?_⟩
  unfold nx en at *
  rw [f]
  exact List.drop_left' (enc_length _ _)

/-- A range that ends at hi, and so many others below it. -/
def readR : Nat → Int → List Int → List R × Int × List Int
  | 0, hi, l => if derr l ≠ 0 then ([], derr l, []) else if hi < dnum l then ([], 50, []) else ([(hi - dnum l, hi)], 0, nx l)
  | k + 1, hi, l =>
    if derr l ≠ 0 then ([], derr l, []) else if hi < dnum l then ([], 50, [])
    else if derr (nx l) ≠ 0 then ([], derr (nx l), []) else if hi - dnum l - 2 < dnum (nx l) then ([], 50, [])
    else let r := readR k (hi - dnum l - 2 - dnum (nx l)) (nx (nx l))
      if r.2.1 ≠ 0 then ([], r.2.1, []) else ((hi - dnum l, hi) :: r.1, 0, r.2.2)

/-- One more number of a reader: what is left, which error there is. -/
def rstep (s : List Int × Int) : List Int × Int := (rrest s.1 s.2, rerr s.1 s.2)
def val1 (s : List Int × Int) : Int := rnum s.1 s.2

def readM (marked : Bool) (delay : Int) (rs : List R) (l : List Int) : Ack × Int × List Int :=
  if marked then
    if (rstep (rstep (rstep (l, 0)))).2 ≠ 0 then (zero, (rstep (rstep (rstep (l, 0)))).2, [])
    else (⟨delay, rs, true, val1 (l, 0), val1 (rstep (l, 0)), val1 (rstep (rstep (l, 0)))⟩, 0, (rstep (rstep (rstep (l, 0)))).1)
  else (⟨delay, rs, false, 0, 0, 0⟩, 0, l)

/-- What follows the first byte. -/
def read (marked : Bool) (l : List Int) : Ack × Int × List Int :=
  if (rstep (rstep (rstep (l, 0)))).2 ≠ 0 then (zero, (rstep (rstep (rstep (l, 0)))).2, [])
  else if 256 ≤ val1 (rstep (rstep (l, 0))) then (zero, 5, [])
  else if (readR (val1 (rstep (rstep (l, 0)))).toNat (val1 (l, 0)) (rstep (rstep (rstep (l, 0)))).1).2.1 ≠ 0 then
    (zero, (readR (val1 (rstep (rstep (l, 0)))).toNat (val1 (l, 0)) (rstep (rstep (rstep (l, 0)))).1).2.1, [])
  else readM marked (val1 (rstep (l, 0))) (readR (val1 (rstep (rstep (l, 0)))).toNat (val1 (l, 0)) (rstep (rstep (rstep (l, 0)))).1).1
    (readR (val1 (rstep (rstep (l, 0)))).toNat (val1 (l, 0)) (rstep (rstep (rstep (l, 0)))).1).2.2

/-- The ACK at the front of bytes; how many bytes it has; the error. -/
def next (l : List Int) : Ack × Int × Int :=
  if l.length = 0 then (zero, 0, 3)
  else if hd l ≠ 2 ∧ hd l ≠ 3 then (zero, 0, 50)
  else if (read (hd l == 3) l.tail).2.1 ≠ 0 then (zero, 0, (read (hd l == 3) l.tail).2.1)
  else ((read (hd l == 3) l.tail).1, (l.length : Int) - (read (hd l == 3) l.tail).2.2.length, 0)
def parse (l : List Int) : Ack × Int :=
  if (next l).2.2 ≠ 0 then (zero, (next l).2.2)
  else if (next l).2.1 < l.length then (zero, 4)
  else ((next l).1, 0)

theorem step_ok {l : List Int} (h : derr l = 0) : rstep (l, 0) = (nx l, 0) ∧ val1 (l, 0) = dnum l := by
  unfold rstep val1
  simp only [rrest_ok, rerr_ok, rnum_ok, h]
  exact ⟨rfl, trivial⟩
theorem step_en {n : Int} (h : num n) (rest : List Int) : rstep (en n ++ rest, 0) = (rest, 0) ∧ val1 (en n ++ rest, 0) = n := by
  obtain ⟨a, b, c⟩ := rd_en h rest
  obtain ⟨d, e⟩ := step_ok a
  exact ⟨by rw [d, c], by rw [e, b]⟩

theorem readR_back : ∀ (t : List R) (hi lo top : Int) (rest : List Int), hi ≤ M → fits (hi, (lo, hi)) → falls (lo - 2) t → 
    readR t.length hi (en (hi - lo) ++ (encs (steps (tops (lo - 2) t)) ++ rest)) = ((lo, hi) :: t, 0, rest) := by
  intro t
  induction t with
  | nil =>
    intro hi lo top rest hM hf _
    obtain ⟨f1, f2, f3⟩ := hf
    simp only at f1 f2 f3
    obtain ⟨a, b, c⟩ := rd_en (n := hi - lo) (by unfold num; omega) (encs (steps (tops (lo - 2) [])) ++ rest)
    unfold readR
    rw [List.length_nil]
    simp only [a, b, c]
    rw [if_neg (by simp), if_neg (by omega)]
    have : hi - (hi - lo) = lo := by omega
    rw [this]; rfl
  | cons x t ih =>
    intro hi lo top rest hM hf hfl
    obtain ⟨f1, f2, f3⟩ := hf
    simp only at f1 f2 f3
    obtain ⟨g1, g2⟩ := (falls_cons _ _ _).1 hfl
    have hu := under_eq (top := lo - 2) (by omega) g1
    obtain ⟨e1, e2, e3⟩ := g1
    simp only at e1 e2 e3
    rw [hu] at g2
    obtain ⟨a, b, c⟩ := rd_en (n := hi - lo) (by unfold num; omega) (encs (steps (tops (lo - 2) (x :: t))) ++ rest)
    have es : encs (steps (tops (lo - 2) (x :: t))) ++ rest = en (lo - 2 - x.2) ++ (en (x.2 - x.1) ++ (encs (steps (tops (x.1 - 2) t)) ++ rest)) := by
      simp [tops, steps_cons, encs_cons, hu]
    rw [es] at a b c ⊢
    obtain ⟨a', b', c'⟩ := rd_en (n := lo - 2 - x.2) (by unfold num; omega) (en (x.2 - x.1) ++ (encs (steps (tops (x.1 - 2) t)) ++ rest))
    have hi' := ih x.2 x.1 0 rest (by omega) ⟨e1, e2, Int.le_refl _⟩ g2
    rw [List.length_cons]
    unfold readR
    simp only [a, b, c, a', b', c']
    have q1 : hi - (hi - lo) = lo := by omega
    have q2 : lo - 2 - (lo - 2 - x.2) = x.2 := by omega
    rw [q1, q2, if_neg (by simp), if_neg (by omega), if_neg (by simp), if_neg (by omega), hi']
    simp

theorem readM_back (a : Ack) (h : Marks a) (rest : List Int) : readM a.marked a.delay a.ranges (encs (marks a) ++ rest) = (a, 0, rest) := by
  obtain ⟨h1, h2, h3, h4⟩ := h
  unfold readM marks
  cases hm : a.marked with
  | true =>
    have es : encs (if true = true then [a.m0, a.m1, a.m2] else []) ++ rest = en a.m0 ++ (en a.m1 ++ (en a.m2 ++ rest)) := by simp [encs]
    rw [es]
    simp only [(step_en h1 _).1, (step_en h1 _).2, (step_en h2 _).1, (step_en h2 _).2, (step_en h3 _).1, (step_en h3 _).2]
    simp
    exact Ack.ext' rfl rfl hm.symm rfl rfl rfl
  | false =>
    obtain ⟨e1, e2, e3⟩ := h4 hm
    simp [encs]
    exact Ack.ext' rfl rfl hm.symm e1.symm e2.symm e3.symm

/-- What is written is read as it was. -/
theorem read_back {a : Ack} (h : Valid a) (rest : List Int) : read a.marked (encs (nums a) ++ rest) = (a, 0, rest) := by
  obtain ⟨⟨h1, h2, h3⟩, h4, h5⟩ := h
  obtain ⟨x, t, hr⟩ : ∃ x t, a.ranges = x :: t := by
    cases h : a.ranges with
    | nil => rw [h] at h1; simp at h1
    | cons x t => exact ⟨x, t, rfl⟩
  have hf : first a = x := by unfold first; rw [hr]; rfl
  have hlen : a.ranges.length = t.length + 1 := by rw [hr]; rfl
  rw [hr] at h4
  obtain ⟨g1, g2⟩ := (falls_cons _ _ _).1 h4
  have hu := under_eq (Int.le_refl _) g1
  rw [hu] at g2
  have ho : others a = tops (x.1 - 2) t := by unfold others; rw [hf, hu, hr]; rfl
  obtain ⟨f1, f2, f3⟩ := g1
  simp only at f1 f2 f3
  have es : encs (nums a) ++ rest = en x.2 ++ (en a.delay ++ (en (t.length : Int) ++ (en (x.2 - x.1) ++ (encs (steps (tops (x.1 - 2) t)) ++ (encs (marks a) ++ rest))))) := by
    unfold nums
    rw [hf, ho, hlen]
    simp [encs_append, encs_cons, encs_nil]
  rw [es]
  have n1 : num x.2 := by unfold num; omega
  have n2 : num (t.length : Int) := by unfold num M; omega
  unfold read
  simp only [(step_en n1 _).1, (step_en n1 _).2, (step_en h3 _).1, (step_en h3 _).2, (step_en n2 _).1, (step_en n2 _).2]
  have hb := readR_back t x.2 x.1 0 (encs (marks a) ++ rest) f3 ⟨f1, f2, Int.le_refl _⟩ g2
  simp only [Int.toNat_natCast, hb]
  rw [if_neg (by simp), if_neg (by omega), if_neg (by simp)]
  have := readM_back a h5 rest
  rw [hr] at this
  exact this

theorem kind_three (a : Ack) : (kind a == 3) = a.marked ∧ ¬ (kind a ≠ 2 ∧ kind a ≠ 3) := by
  unfold kind; cases a.marked <;> simp
theorem next_back {a : Ack} (h : Valid a) (rest : List Int) : next (bytes a ++ rest) = (a, ((bytes a).length : Int), 0) := by
  unfold next bytes
  rw [List.cons_append]
  have k := kind_three a
  simp only [List.length_cons, hd_cons, List.tail_cons, k.1, read_back h rest]
  rw [if_neg (by omega), if_neg k.2, if_neg (by simp), List.length_append]
  congr 2
  omega
theorem parse_back {a : Ack} (h : Valid a) : parse (bytes a) = (a, 0) := by
  have := next_back h []
  rw [List.append_nil] at this
  unfold parse
  rw [this]
  simp

/-! What was read so far does not hang on what stands behind. -/
theorem derr_more {p : List Int} (h : derr p ≠ 3) (q : List Int) : derr (p ++ q) = derr p ∧ dnum (p ++ q) = dnum p ∧ nx (p ++ q) = nx p ++ q := by
  have h0 : 0 < p.length := by
    rcases Nat.eq_zero_or_pos p.length with h0 | h0
    · exact absurd (derr_trunc p (.inl h0)).1 h
    · exact h0
  have h1 : lenOf (hd p) ≤ p.length := by
    rcases Int.lt_or_le p.length (lenOf (hd p)) with h1 | h1
    · exact absurd (derr_trunc p (.inr h1)).1 h
    · exact h1
  have hh : hd (p ++ q) = hd p := by cases p with
    | nil => simp at h0
    | cons x t => rfl
  have hl := lenOf_bd (hd p)
  have hr : raw (p ++ q) = raw p := by
    unfold raw
    rw [hh, List.take_append_of_le_length (by omega)]
  have hlen : (p ++ q).length = p.length + q.length := List.length_append
  rcases Int.lt_or_le 9007199254740991 (raw p) with h2 | h2
  · obtain ⟨a, b, c⟩ := derr_great p h0 h1 h2
    obtain ⟨a', b', c'⟩ := derr_great (p ++ q) (by omega) (by rw [hh, hlen]; omega) (by rw [hr]; exact h2)
    refine ⟨by rw [a, a'], by rw [b, b'], ?_⟩
    unfold nx; rw [c, c']; rfl
  · obtain ⟨a, b, c⟩ := derr_well p h0 h1 h2
    obtain ⟨a', b', c'⟩ := derr_well (p ++ q) (by omega) (by rw [hh, hlen]; omega) (by rw [hr]; exact h2)
    refine ⟨by rw [a, a'], by rw [b, b', hr], ?_⟩
    unfold nx; rw [c, c', hh, List.drop_append_of_le_length (by omega)]

theorem readR_more : ∀ (k : Nat) (hi : Int) (p q : List Int), (readR k hi p).2.1 ≠ 3 →
    (readR k hi (p ++ q)).1 = (readR k hi p).1 ∧ (readR k hi (p ++ q)).2.1 = (readR k hi p).2.1 ∧ ((readR k hi p).2.1 = 0 → (readR k hi (p ++ q)).2.2 = (readR k hi p).2.2 ++ q) := by
  intro k
  induction k with
  | zero =>
    intro hi p q h
    have hp : derr p ≠ 3 := by intro h3; apply h; unfold readR; rw [h3]; rfl
    obtain ⟨a, b, c⟩ := derr_more hp q
    unfold readR
    rw [a, b, c]
    split
    · exact ⟨rfl, rfl, fun h => absurd h (by assumption)⟩
    · split
      · exact ⟨rfl, rfl, fun h => by cases h⟩
      · exact ⟨rfl, rfl, fun _ => rfl⟩
  | succ k ih =>
    intro hi p q h
    have hp : derr p ≠ 3 := by intro h3; apply h; unfold readR; rw [h3]; rfl
    obtain ⟨a, b, c⟩ := derr_more hp q
    by_cases h1 : derr p ≠ 0
    · unfold readR; rw [a, if_pos h1, if_pos h1]; exact ⟨rfl, rfl, fun h => absurd h h1⟩
    · by_cases h2 : hi < dnum p
      · unfold readR; rw [a, b, if_neg h1, if_neg h1, if_pos h2, if_pos h2]; exact ⟨rfl, rfl, fun h => by cases h⟩
      · have hp2 : derr (nx p) ≠ 3 := by intro h3; apply h; unfold readR; rw [if_neg h1, if_neg h2, h3]; rfl
        obtain ⟨a', b', c'⟩ := derr_more hp2 q
        by_cases h3 : derr (nx p) ≠ 0
        · unfold readR; rw [a, b, c, a', if_neg h1, if_neg h1, if_neg h2, if_neg h2, if_pos h3, if_pos h3]; exact ⟨rfl, rfl, fun h => absurd h h3⟩
        · by_cases h4 : hi - dnum p - 2 < dnum (nx p)
          · unfold readR; rw [a, b, c, a', b', if_neg h1, if_neg h1, if_neg h2, if_neg h2, if_neg h3, if_neg h3, if_pos h4, if_pos h4]; exact ⟨rfl, rfl, fun h => by cases h⟩
          · have e1 : readR (k + 1) hi p = if (readR k (hi - dnum p - 2 - dnum (nx p)) (nx (nx p))).2.1 ≠ 0 then ([], (readR k (hi - dnum p - 2 - dnum (nx p)) (nx (nx p))).2.1, []) else ((hi - dnum p, hi) :: (readR k (hi - dnum p - 2 - dnum (nx p)) (nx (nx p))).1, 0, (readR k (hi - dnum p - 2 - dnum (nx p)) (nx (nx p))).2.2) := by
              conv => lhs; unfold readR
              rw [if_neg h1, if_neg h2, if_neg h3, if_neg h4]
            have e2 : readR (k + 1) hi (p ++ q) = if (readR k (hi - dnum p - 2 - dnum (nx p)) (nx (nx p) ++ q)).2.1 ≠ 0 then ([], (readR k (hi - dnum p - 2 - dnum (nx p)) (nx (nx p) ++ q)).2.1, []) else ((hi - dnum p, hi) :: (readR k (hi - dnum p - 2 - dnum (nx p)) (nx (nx p) ++ q)).1, 0, (readR k (hi - dnum p - 2 - dnum (nx p)) (nx (nx p) ++ q)).2.2) := by
              conv => lhs; unfold readR
              rw [a, b, c, a', b', c', if_neg h1, if_neg h2, if_neg h3, if_neg h4]
            have hk : (readR k (hi - dnum p - 2 - dnum (nx p)) (nx (nx p))).2.1 ≠ 3 := by
              intro h5; apply h; rw [e1, h5]; rfl
            obtain ⟨i1, i2, i3⟩ := ih _ _ q hk
            rw [e1, e2, i1, i2]
            split
            · exact ⟨rfl, rfl, fun h => absurd h (by assumption)⟩
            · rename_i h5
              exact ⟨rfl, rfl, fun _ => i3 (by simpa using h5)⟩

theorem step_more (s : List Int × Int) (q : List Int) (h : (rstep s).2 ≠ 3) : (rstep (s.1 ++ q, s.2)).2 = (rstep s).2 ∧ val1 (s.1 ++ q, s.2) = val1 s ∧ (rstep (s.1 ++ q, s.2)).1 = (rstep s).1 ++ q := by
  obtain ⟨l, e⟩ := s
  unfold rstep val1 at *
  simp only at *
  by_cases he : e = 0
  · subst he
    rw [rerr_ok] at h
    obtain ⟨a, b, c⟩ := derr_more h q
    refine ⟨by rw [rerr_ok, rerr_ok, a], by rw [rnum_ok, rnum_ok, b], ?_⟩
    rw [rrest_ok, rrest_ok]; exact c
  · exact ⟨by rw [rerr_err _ _ he, rerr_err _ _ he], by rw [rnum_err _ _ he, rnum_err _ _ he], by rw [rrest_err _ _ he, rrest_err _ _ he]⟩
theorem step_stays (s : List Int × Int) (h : s.2 = 3) : (rstep s).2 = 3 := by
  unfold rstep; simp only; rw [rerr_err _ _ (by omega), h]
/-- Three numbers. -/
theorem three_more (s : List Int × Int) (q : List Int) (h : (rstep (rstep (rstep s))).2 ≠ 3) :
    (rstep (rstep (rstep (s.1 ++ q, s.2)))).2 = (rstep (rstep (rstep s))).2 ∧ (rstep (rstep (rstep (s.1 ++ q, s.2)))).1 = (rstep (rstep (rstep s))).1 ++ q ∧
    val1 (s.1 ++ q, s.2) = val1 s ∧ val1 (rstep (s.1 ++ q, s.2)) = val1 (rstep s) ∧ val1 (rstep (rstep (s.1 ++ q, s.2))) = val1 (rstep (rstep s)) := by
  have h2 : (rstep (rstep s)).2 ≠ 3 := fun e => h (step_stays _ e)
  have h1 : (rstep s).2 ≠ 3 := fun e => h2 (step_stays _ e)
  obtain ⟨a1, b1, c1⟩ := step_more s q h1
  have e1 : rstep (s.1 ++ q, s.2) = ((rstep s).1 ++ q, (rstep s).2) := Prod.ext c1 a1
  obtain ⟨a2, b2, c2⟩ := step_more (rstep s) q h2
  have e2 : rstep (rstep (s.1 ++ q, s.2)) = ((rstep (rstep s)).1 ++ q, (rstep (rstep s)).2) := by rw [e1]; exact Prod.ext c2 a2
  obtain ⟨a3, b3, c3⟩ := step_more (rstep (rstep s)) q h
  refine ⟨by rw [e2]; exact a3, by rw [e2]; exact c3, b1, by rw [e1]; exact b2, by rw [e2]; exact b3⟩

theorem readM_more (m : Bool) (d : Int) (rs : List R) (p q : List Int) (h : (readM m d rs p).2.1 ≠ 3) :
    (readM m d rs (p ++ q)).1 = (readM m d rs p).1 ∧ (readM m d rs (p ++ q)).2.1 = (readM m d rs p).2.1 ∧ ((readM m d rs p).2.1 = 0 → (readM m d rs (p ++ q)).2.2 = (readM m d rs p).2.2 ++ q) := by
  cases m with
  | false => exact ⟨rfl, rfl, fun _ => rfl⟩
  | true =>
    have h3 : (rstep (rstep (rstep (p, 0)))).2 ≠ 3 := by
      intro e; apply h; unfold readM; rw [if_pos rfl, e]; rfl
    obtain ⟨a, b, c, d', e⟩ := three_more (p, 0) q h3
    simp only at a b c d' e
    unfold readM
    rw [if_pos rfl, if_pos rfl, a, b, c, d', e]
    split
    · exact ⟨rfl, rfl, fun h => absurd h (by assumption)⟩
    · exact ⟨rfl, rfl, fun _ => rfl⟩

theorem read_more (m : Bool) (p q : List Int) (h : (read m p).2.1 ≠ 3) :
    (read m (p ++ q)).1 = (read m p).1 ∧ (read m (p ++ q)).2.1 = (read m p).2.1 ∧ ((read m p).2.1 = 0 → (read m (p ++ q)).2.2 = (read m p).2.2 ++ q) := by
  have h3 : (rstep (rstep (rstep (p, 0)))).2 ≠ 3 := by
    intro e; apply h; unfold read; rw [e]; rfl
  obtain ⟨a, b, c, d', e⟩ := three_more (p, 0) q h3
  simp only at a b c d' e
  unfold read
  unfold read at h
  rw [a, b, c, d', e]
  split
  · exact ⟨rfl, rfl, fun h => absurd h (by assumption)⟩
  · rename_i h1
    rw [if_neg h1] at h
    split
    · exact ⟨rfl, rfl, fun h => by cases h⟩
    · rename_i h2
      rw [if_neg h2] at h
      have hk : (readR (val1 (rstep (rstep (p, 0)))).toNat (val1 (p, 0)) (rstep (rstep (rstep (p, 0)))).1).2.1 ≠ 3 := by
        intro e; rw [e] at h; exact h rfl
      obtain ⟨i1, i2, i3⟩ := readR_more _ _ _ q hk
      rw [i1, i2]
      split
      · exact ⟨rfl, rfl, fun h => absurd h (by assumption)⟩
      · rename_i h4
        rw [if_neg h4] at h
        rw [i3 (by simpa using h4)]
        exact readM_more _ _ _ _ q h

/-- Of bytes that are cut nothing can be parsed. -/
theorem parse_cut {a : Ack} (h : Valid a) (k : Nat) (hk : k < (bytes a).length) : parse ((bytes a).take k) = (zero, 3) := by
  have key : (next ((bytes a).take k)).2.2 = 3 := by
    unfold next
    rcases Nat.eq_zero_or_pos k with rfl | hk0
    · rw [List.take_zero, if_pos (by rfl)]
    · obtain ⟨j, rfl⟩ : ∃ j, k = j + 1 := ⟨k - 1, by omega⟩
      have k3 := kind_three a
      have hb : (bytes a).take (j + 1) = kind a :: (encs (nums a)).take j := rfl
      rw [hb]
      simp only [List.length_cons, hd_cons, List.tail_cons, k3.1]
      rw [if_neg (by omega), if_neg k3.2]
      have hj : j < (encs (nums a)).length := by unfold bytes at hk; rw [List.length_cons] at hk; omega
      have hr : (read a.marked ((encs (nums a)).take j)).2.1 = 3 := by
        rcases Decidable.em ((read a.marked ((encs (nums a)).take j)).2.1 = 3) with e | e
        · exact e
        · exfalso
          obtain ⟨_, r2, r3⟩ := read_more _ _ ((encs (nums a)).drop j) e
          have hrb := read_back h []
          rw [List.append_nil] at hrb
          rw [List.take_append_drop, hrb] at r2 r3
          have r4 := r3 r2.symm
          have : ((encs (nums a)).drop j).length = 0 := by
            have := congrArg List.length r4
            rw [List.length_append] at this
            simp only [List.length_nil] at this
            omega
          rw [List.length_drop] at this
          omega
      rw [hr]; rfl
  unfold parse
  rw [key]
  rfl

/-! What was read may be, and is written in as few bytes, or fewer. -/
theorem rd_made {l : List Int} (hb : allByte l) (h : derr l = 0) : num (dnum l) ∧ (en (dnum l)).length + (nx l).length ≤ l.length ∧ allByte (nx l) := by
  obtain ⟨h0, h1⟩ := derr_len l h
  have hl := lenOf_bd (hd l)
  have hr : raw l ≤ 9007199254740991 := by
    rcases Int.lt_or_le 9007199254740991 (raw l) with h2 | h2
    · rw [(derr_great l h0 h1 h2).1] at h; cases h
    · exact h2
  obtain ⟨_, e1, e2⟩ := derr_well l h0 h1 hr
  obtain ⟨b0, b1⟩ := acc_bd l hb (lenOf (hd l)).toNat (by omega) (by omega)
  rw [acc_raw] at b0 b1
  have hs : size (raw l) ≤ lenOf (hd l) := by
    rcases lenOf_four (hd l) with e | e | e | e <;> rw [e] at b1 ⊢
    · have : raw l < 64 := by simpa using b1
      rw [size_one _ b0 this]; omega
    · have : raw l < 16384 := by simpa using b1
      rcases Int.lt_or_le (raw l) 64 with c | c
      · rw [size_one _ b0 c]; omega
      · rw [size_two _ c this]; omega
    · have : raw l < 1073741824 := by simpa using b1
      rcases Int.lt_or_le (raw l) 64 with c | c
      · rw [size_one _ b0 c]; omega
      · rcases Int.lt_or_le (raw l) 16384 with d | d
        · rw [size_two _ c d]; omega
        · rw [size_four _ d this]; omega
    · exact (size_bd _).2
  have hz := size_bd (raw l)
  refine ⟨by rw [e1]; exact ⟨b0, hr⟩, ?_, fun x hx => hb x (List.mem_of_mem_drop hx)⟩
  unfold en nx
  rw [enc_length, List.length_drop, e1, e2]
  omega
theorem step_back (s : List Int × Int) (h : (rstep s).2 = 0) : s.2 = 0 := by
  rcases Decidable.em (s.2 = 0) with e | e
  · exact e
  · unfold rstep at h; simp only at h; rw [rerr_err _ _ e] at h; exact absurd h e
theorem step_made {s : List Int × Int} (hb : allByte s.1) (h : (rstep s).2 = 0) : num (val1 s) ∧ (en (val1 s)).length + (rstep s).1.length ≤ s.1.length ∧ allByte (rstep s).1 := by
  have h0 := step_back s h
  obtain ⟨l, e⟩ := s
  simp only at h0 hb
  subst h0
  have hd : derr l = 0 := by unfold rstep at h; simp only [rerr_ok] at h; exact h
  obtain ⟨a, b⟩ := step_ok hd
  rw [a, b]
  exact rd_made hb hd
theorem three_made {l : List Int} (hb : allByte l) (h : (rstep (rstep (rstep (l, 0)))).2 = 0) :
    num (val1 (l, 0)) ∧ num (val1 (rstep (l, 0))) ∧ num (val1 (rstep (rstep (l, 0)))) ∧
    (en (val1 (l, 0))).length + (en (val1 (rstep (l, 0)))).length + (en (val1 (rstep (rstep (l, 0))))).length + (rstep (rstep (rstep (l, 0)))).1.length ≤ l.length ∧ allByte (rstep (rstep (rstep (l, 0)))).1 := by
  have h2 := step_back _ h
  have h1 := step_back _ h2
  obtain ⟨a1, b1, c1⟩ := step_made (s := (l, 0)) hb h1
  obtain ⟨a2, b2, c2⟩ := step_made c1 h2
  obtain ⟨a3, b3, c3⟩ := step_made c2 h
  exact ⟨a1, a2, a3, by simp only at b1; omega, c3⟩

theorem readR_made : ∀ (k : Nat) (hi : Int) (l : List Int), allByte l → hi ≤ M → (readR k hi l).2.1 = 0 →
    ∃ lo t, (readR k hi l).1 = (lo, hi) :: t ∧ t.length = k ∧ fits (hi, (lo, hi)) ∧ falls (lo - 2) t ∧
      (en (hi - lo)).length + (encs (steps (tops (lo - 2) t))).length + (readR k hi l).2.2.length ≤ l.length ∧ allByte (readR k hi l).2.2 := by
  intro k
  induction k with
  | zero =>
    intro hi l hb hM h
    unfold readR at h
    split at h
    · exact absurd h (by assumption)
    · rename_i h1
      split at h
      · cases h
      · rename_i h2
        obtain ⟨n1, n2, n3⟩ := rd_made hb (by simpa using h1)
        have e : readR 0 hi l = ([(hi - dnum l, hi)], 0, nx l) := by unfold readR; rw [if_neg h1, if_neg h2]
        have q : hi - (hi - dnum l) = dnum l := by omega
        unfold num at n1
        rw [e]
        refine ⟨hi - dnum l, [], rfl, rfl, ⟨by simp only; omega, by simp only; omega, Int.le_refl _⟩, falls_nil _, ?_, n3⟩
        rw [q]; simp [tops, steps, encs]; exact n2
  | succ k ih =>
    intro hi l hb hM h
    unfold readR at h
    split at h
    · exact absurd h (by assumption)
    · rename_i h1
      split at h
      · cases h
      · rename_i h2
        split at h
        · exact absurd h (by assumption)
        · rename_i h3
          split at h
          · cases h
          · rename_i h4
            simp only at h
            split at h
            · exact absurd h (by assumption)
            · rename_i h5
              obtain ⟨n1, n2, n3⟩ := rd_made hb (by simpa using h1)
              obtain ⟨o1, o2, o3⟩ := rd_made n3 (by simpa using h3)
              unfold num at n1 o1
              obtain ⟨lo, t, i1, i2, i3, i4, i5, i6⟩ := ih (hi - dnum l - 2 - dnum (nx l)) (nx (nx l)) o3 (by omega) (by simpa using h5)
              have e : readR (k + 1) hi l = ((hi - dnum l, hi) :: (readR k (hi - dnum l - 2 - dnum (nx l)) (nx (nx l))).1, 0, (readR k (hi - dnum l - 2 - dnum (nx l)) (nx (nx l))).2.2) := by
                conv => lhs; unfold readR
                rw [if_neg h1, if_neg h2, if_neg h3, if_neg h4]
                simp only
                rw [if_neg h5]
              have q : hi - (hi - dnum l) = dnum l := by omega
              obtain ⟨f1, f2, f3⟩ := i3
              simp only at f1 f2 f3
              have hfit : fits (hi - dnum l - 2, (lo, hi - dnum l - 2 - dnum (nx l))) := ⟨f1, f2, by simp only; omega⟩
              have hu := under_eq (by omega) hfit
              simp only at hu
              rw [e]
              refine ⟨hi - dnum l, (lo, hi - dnum l - 2 - dnum (nx l)) :: t, by rw [i1], by rw [List.length_cons, i2], ⟨by simp only; omega, by simp only; omega, Int.le_refl _⟩, (falls_cons _ _ _).2 ⟨hfit, by rw [hu]; exact i4⟩, ?_, i6⟩
              have q2 : hi - dnum l - 2 - (hi - dnum l - 2 - dnum (nx l)) = dnum (nx l) := by omega
              simp only [tops, steps_cons, encs_cons, hu, List.length_append, q, q2]
              omega

theorem marks_zero {a : Ack} (h : a.marked = false) : marks a = [] := by unfold marks; rw [h]; rfl
theorem marks_one {a : Ack} (h : a.marked = true) : marks a = [a.m0, a.m1, a.m2] := by unfold marks; rw [h]; rfl
theorem readM_made (m : Bool) (d : Int) (rs : List R) (l : List Int) (hb : allByte l) (h : (readM m d rs l).2.1 = 0) :
    (readM m d rs l).1.delay = d ∧ (readM m d rs l).1.ranges = rs ∧ (readM m d rs l).1.marked = m ∧ Marks (readM m d rs l).1 ∧ (encs (marks (readM m d rs l).1)).length + (readM m d rs l).2.2.length ≤ l.length := by
  cases m with
  | false =>
    have z : num 0 := by decide
    refine ⟨rfl, rfl, rfl, ⟨z, z, z, fun _ => ⟨rfl, rfl, rfl⟩⟩, ?_⟩
    rw [marks_zero rfl]
    simp [encs, readM]
  | true =>
    unfold readM at h
    rw [if_pos rfl] at h
    split at h
    · exact absurd h (by assumption)
    · rename_i h1
      obtain ⟨a1, a2, a3, a4, a5⟩ := three_made hb (by simpa using h1)
      have e : readM true d rs l = (⟨d, rs, true, val1 (l, 0), val1 (rstep (l, 0)), val1 (rstep (rstep (l, 0)))⟩, 0, (rstep (rstep (rstep (l, 0)))).1) := by
        unfold readM; rw [if_pos rfl, if_neg h1]
      rw [e]
      refine ⟨rfl, rfl, rfl, ⟨a1, a2, a3, fun h => by cases h⟩, ?_⟩
      rw [marks_one rfl]
      simp only [encs_cons, encs_nil, List.length_append, List.length_nil]
      omega

theorem read_made (m : Bool) (l : List Int) (hb : allByte l) (h : (read m l).2.1 = 0) :
    Valid (read m l).1 ∧ (read m l).1.marked = m ∧ (encs (nums (read m l).1)).length + (read m l).2.2.length ≤ l.length := by
  unfold read at h
  split at h
  · exact absurd h (by assumption)
  · rename_i h1
    split at h
    · cases h
    · rename_i h2
      split at h
      · exact absurd h (by assumption)
      · rename_i h3
        obtain ⟨a1, a2, a3, a4, a5⟩ := three_made hb (by simpa using h1)
        have e : read m l = readM m (val1 (rstep (l, 0))) (readR (val1 (rstep (rstep (l, 0)))).toNat (val1 (l, 0)) (rstep (rstep (rstep (l, 0)))).1).1 (readR (val1 (rstep (rstep (l, 0)))).toNat (val1 (l, 0)) (rstep (rstep (rstep (l, 0)))).1).2.2 := by
          unfold read; rw [if_neg h1, if_neg h2, if_neg h3]
        obtain ⟨lo, t, i1, i2, i3, i4, i5, i6⟩ := readR_made (val1 (rstep (rstep (l, 0)))).toNat (val1 (l, 0)) (rstep (rstep (rstep (l, 0)))).1 a5 a1.2 (by simpa using h3)
        generalize hk : val1 (rstep (rstep (l, 0))) = k at *
        generalize hg : val1 (l, 0) = g at *
        generalize hd : val1 (rstep (l, 0)) = d at *
        generalize hq : readR k.toNat g (rstep (rstep (rstep (l, 0)))).1 = Q at *
        obtain ⟨m1, m2, m3, m4, m5⟩ := readM_made m d Q.1 Q.2.2 i6 h
        have hu := under_eq a1.2 i3
        simp only at hu
        rw [e]
        replace m2 := m2.trans i1
        have hlen : (readM m d Q.1 Q.2.2).1.ranges.length = t.length + 1 := by rw [m2]; rfl
        unfold num at a3
        refine ⟨⟨⟨by rw [hlen]; omega, by rw [hlen, i2]; omega, by rw [m1]; exact a2⟩, by rw [m2]; exact (falls_cons _ _ _).2 ⟨⟨i3.1, i3.2.1, a1.2⟩, by rw [hu]; exact i4⟩, m4⟩, m3, ?_⟩
        have hf : first (readM m d Q.1 Q.2.2).1 = (lo, g) := by unfold first; rw [m2]; rfl
        have ho : others (readM m d Q.1 Q.2.2).1 = tops (lo - 2) t := by unfold others; rw [hf, hu, m2]; rfl
        have hkk : ((t.length + 1 : Nat) : Int) - 1 = k := by rw [i2]; omega
        unfold nums
        rw [hf, ho, hlen, m1, hkk]
        simp only [encs_append, encs_cons, encs_nil, List.length_append, List.length_nil]
        omega

theorem next_made (l : List Int) (hb : allByte l) (h : (next l).2.2 = 0) :
    Valid (next l).1 ∧ 1 ≤ (next l).2.1 ∧ (next l).2.1 ≤ l.length ∧ ((bytes (next l).1).length : Int) ≤ (next l).2.1 := by
  unfold next at h
  split at h
  · cases h
  · rename_i h1
    split at h
    · cases h
    · rename_i h2
      split at h
      · exact absurd h (by assumption)
      · rename_i h3
        have e : next l = ((read (hd l == 3) l.tail).1, (l.length : Int) - (read (hd l == 3) l.tail).2.2.length, 0) := by unfold next; rw [if_neg h1, if_neg h2, if_neg h3]
        obtain ⟨a, b, c⟩ := read_made (hd l == 3) l.tail (fun x hx => hb x (List.mem_of_mem_tail hx)) (by simpa using h3)
        rw [e]
        simp only [List.length_tail] at c
        refine ⟨a, by simp only; omega, by simp only; omega, ?_⟩
        unfold bytes
        simp only [List.length_cons]
        omega
theorem next_err (l : List Int) (h : (next l).2.2 ≠ 0) : (next l).1 = zero ∧ (next l).2.1 = 0 := by
  unfold next at h ⊢
  split
  · exact ⟨rfl, rfl⟩
  · rename_i h1
    rw [if_neg h1] at h
    split
    · exact ⟨rfl, rfl⟩
    · rename_i h2
      rw [if_neg h2] at h
      split
      · exact ⟨rfl, rfl⟩
      · rename_i h3
        rw [if_neg h3] at h
        exact absurd rfl h

end Go.Proofs.YtganelhlpobdjaaDoor.FrmM
