/-
  Plain mathematics of packets that were sent: logs, their totals, what is put, dropped, found; rings. Nothing here speaks of a program.
-/
import Derived.Test.YtdfjceghhjecaaaCod
namespace Go.Proofs.Ytdfjceghhjecaaa.SntM
open Cd
set_option linter.unusedSimpArgs false
set_option linter.unusedVariables false

/-- A packet: number, time, size; eliciting, flight, ect. -/
structure Pk where
  n : Int
  t : Int
  s : Int
  e : Bool
  f : Bool
  c : Bool
set_option maxRecDepth 100000 in
theorem Pk.ext' {a b : Pk} (h1 : a.n = b.n) (h2 : a.t = b.t) (h3 : a.s = b.s) (h4 : a.e = b.e) (h5 : a.f = b.f) (h6 : a.c = b.c) : a = b := by
  cases a; cases b; simp_all
instance : DecidableEq Pk := fun a b => decidable_of_iff (a.n = b.n ∧ a.t = b.t ∧ a.s = b.s ∧ a.e = b.e ∧ a.f = b.f ∧ a.c = b.c)
  ⟨fun h => Pk.ext' h.1 h.2.1 h.2.2.1 h.2.2.2.1 h.2.2.2.2.1 h.2.2.2.2.2, fun h => by subst h; simp⟩
def gap (n : Int) : Pk := ⟨n, 0, 0, false, false, false⟩
instance : Inhabited Pk := ⟨gap 0⟩
def zero : Pk := gap 0

def M : Int := 9007199254740991
/-- May a packet be? -/
def valid (p : Pk) : Prop := 0 ≤ p.n ∧ p.n ≤ M ∧ 0 ≤ p.t ∧ p.t ≤ M ∧ 1 ≤ p.s ∧ p.s ≤ 65535
instance (p : Pk) : Decidable (valid p) := by unfold valid; infer_instance
def validB (p : Pk) : Bool := decide (valid p)

/-- Totals. -/
def fly : List Pk → Int
  | [] => 0
  | p :: l => (if p.f = true then p.s else 0) + fly l
def eli : List Pk → Int
  | [] => 0
  | p :: l => (if p.f = true then (if p.e = true then 1 else 0) else 0) + eli l
set_option maxRecDepth 100000 in
theorem fly_append (a b : List Pk) : fly (a ++ b) = fly a + fly b := by induction a with
  | nil => simp [fly]
  | cons p l ih => simp [fly, ih]; omega
set_option maxRecDepth 100000 in
theorem eli_append (a b : List Pk) : eli (a ++ b) = eli a + eli b := by induction a with
  | nil => simp [eli]
  | cons p l ih => simp [eli, ih]; omega
set_option maxRecDepth 100000 in
theorem fly_bd {l : List Pk} (h : ∀ p ∈ l, 0 ≤ p.s ∧ p.s ≤ 65535) : 0 ≤ fly l ∧ fly l ≤ 65535 * l.length := by induction l with
  | nil => simp [fly]
  | cons p l ih =>
    have h1 := ih (fun q hq => h q (by simp [hq]))
    have h2 := h p (by simp)
    simp only [fly, List.length_cons]
    split <;> omega
set_option maxRecDepth 100000 in
theorem eli_bd (l : List Pk) : 0 ≤ eli l ∧ eli l ≤ l.length := by induction l with
  | nil => simp [eli]
  | cons p l ih =>
    simp only [eli, List.length_cons]
    split
    · split <;> omega
    · omega

/-- Is it a packet, not a gap? -/
def real (p : Pk) : Bool := decide (p.s ≠ 0)
def reals (l : List Pk) : List Pk := l.filter real
set_option maxRecDepth 100000 in
theorem reals_append (a b : List Pk) : reals (a ++ b) = reals a ++ reals b := by unfold reals; exact List.filter_append _ _
set_option maxRecDepth 100000 in
theorem real_gap (n : Int) : real (gap n) = false := by simp [real, gap]
set_option maxRecDepth 100000 in
theorem real_valid {p : Pk} (h : valid p) : real p = true := by
  have := h.2.2.2.2.1
  unfold real; exact decide_eq_true (by omega)
set_option maxRecDepth 100000 in
theorem reals_one_yes {p : Pk} (h : real p = true) : reals [p] = [p] := by simp [reals, h]
set_option maxRecDepth 100000 in
theorem reals_one_no {p : Pk} (h : real p = false) : reals [p] = [] := by simp [reals, h]
set_option maxRecDepth 100000 in
theorem reals_len (l : List Pk) : (reals l).length ≤ l.length := List.length_filter_le _ _

abbrev Rise (l : List Pk) : Prop := l.Pairwise (fun a b => a.n < b.n)
/-- What stands in a log's ring: packets and gaps, by rising numbers, no gap ahead of all. -/
structure Ok (room : Nat) (last : Int) (es : List Pk) : Prop where
  rise : Rise es
  good : ∀ p ∈ es, (valid p ∨ p = gap p.n) ∧ 0 ≤ p.n ∧ p.n ≤ last
  len : es.length ≤ room
  room1 : 1 ≤ room ∧ room ≤ 256
  head : ∀ p, es.head? = some p → real p = true
  last1 : -1 ≤ last ∧ last ≤ M
/-- A log's packets. -/
structure Good (room : Nat) (last : Int) (l : List Pk) : Prop where
  rise : Rise l
  good : ∀ p ∈ l, valid p ∧ p.n ≤ last
  len : l.length ≤ room
  room1 : 1 ≤ room ∧ room ≤ 256
  last1 : -1 ≤ last ∧ last ≤ M
set_option maxRecDepth 100000 in
theorem Ok.size {room : Nat} {last : Int} {es : List Pk} (h : Ok room last es) : ∀ p ∈ es, 0 ≤ p.s ∧ p.s ≤ 65535 := fun p hp => by
  rcases (h.good p hp).1 with h | h
  · have := h.2.2.2.2; omega
  · rw [h]; simp [gap]
set_option maxRecDepth 100000 in
theorem Ok.real_ {room : Nat} {last : Int} {es : List Pk} (h : Ok room last es) {p : Pk} (hp : p ∈ es) (hr : real p = true) : valid p := by
  rcases (h.good p hp).1 with h | h
  · exact h
  · rw [h, real_gap] at hr; cases hr
set_option maxRecDepth 100000 in
theorem Ok.gap_ {room : Nat} {last : Int} {es : List Pk} (h : Ok room last es) {p : Pk} (hp : p ∈ es) (hr : real p = false) : p = gap p.n := by
  rcases (h.good p hp).1 with h | h
  · rw [real_valid h] at hr; cases hr
  · exact h
set_option maxRecDepth 100000 in
theorem Ok.reals_ {room : Nat} {last : Int} {es : List Pk} (h : Ok room last es) : Good room last (reals es) :=
  ⟨h.rise.filter _, fun p hp => by
    have h1 := List.mem_filter.1 hp
    exact ⟨h.real_ h1.1 h1.2, (h.good p h1.1).2.2⟩, Nat.le_trans (reals_len es) h.len, h.room1, h.last1⟩
set_option maxRecDepth 100000 in
theorem Ok.dense {room : Nat} {last : Int} {es : List Pk} (h : Ok room last es) : Ok room last (reals es) :=
  ⟨h.rise.filter _, fun p hp => h.good p (List.mem_filter.1 hp).1, Nat.le_trans (reals_len es) h.len, h.room1, fun p hp => by
    have : p ∈ reals es := List.mem_of_mem_head? (by rw [hp]; exact rfl)
    exact (List.mem_filter.1 this).2, h.last1⟩
set_option maxRecDepth 100000 in
theorem Ok.nil {room : Nat} {last : Int} (h1 : 1 ≤ room ∧ room ≤ 256) (h2 : -1 ≤ last ∧ last ≤ M) : Ok room last [] := ⟨List.Pairwise.nil, fun p h => (by cases h), Nat.zero_le _, h1, (fun p h => by cases h), h2⟩
set_option maxRecDepth 100000 in
theorem reals_reals (l : List Pk) : reals (reals l) = reals l := by unfold reals; rw [List.filter_filter]; simp

/-! Put. -/
def putErr (room : Nat) (last : Int) (l : List Pk) (p : Pk) : Int := if ¬ valid p then 2 else if p.n ≤ last then 60 else if l.length = room then 5 else 0
def putL (room : Nat) (last : Int) (l : List Pk) (p : Pk) : List Pk := if putErr room last l p = 0 then l ++ [p] else l
def putTop (room : Nat) (last : Int) (l : List Pk) (p : Pk) : Int := if putErr room last l p = 0 then p.n else last
set_option maxRecDepth 100000 in
theorem Ok.put {room : Nat} {last : Int} {es : List Pk} (h : Ok room last es) {p : Pk} (hv : valid p) (hn : last < p.n) (hl : es.length < room) : Ok room p.n (es ++ [p]) :=
  ⟨List.pairwise_append.2 ⟨h.rise, List.pairwise_singleton _ _, fun a ha b hb => by rw [List.mem_singleton.1 hb]; have := (h.good a ha).2.2; omega⟩,
   fun q hq => by
    rcases List.mem_append.1 hq with hq | hq
    · have := h.good q hq; exact ⟨this.1, this.2.1, by omega⟩
    · rw [List.mem_singleton.1 hq]; exact ⟨.inl hv, hv.1, Int.le_refl _⟩,
   by simp; omega, h.room1, fun q hq => by
    cases es with
    | nil => simp at hq; rw [← hq]; exact real_valid hv
    | cons a t => simp at hq; exact h.head q (by simp [hq]), by have := hv.1; have := hv.2.1; omega⟩
set_option maxRecDepth 100000 in
theorem Good.put {room : Nat} {last : Int} {l : List Pk} (h : Good room last l) (p : Pk) : Good room (putTop room last l p) (putL room last l p) := by
  unfold putTop putL
  by_cases e : putErr room last l p = 0
  · rw [if_pos e, if_pos e]
    unfold putErr at e
    by_cases hv : valid p
    · rw [if_neg (by simpa using hv)] at e
      by_cases hn : p.n ≤ last
      · rw [if_pos hn] at e; cases e
      · rw [if_neg hn] at e
        by_cases hl : l.length = room
        · rw [if_pos hl] at e; cases e
        · have := h.len
          refine ⟨List.pairwise_append.2 ⟨h.rise, List.pairwise_singleton _ _, fun a ha b hb => by rw [List.mem_singleton.1 hb]; have := (h.good a ha).2; omega⟩, fun q hq => ?_, by simp; omega, h.room1, by have := hv.1; have := hv.2.1; omega⟩
          rcases List.mem_append.1 hq with hq | hq
          · have := h.good q hq; exact ⟨this.1, by omega⟩
          · rw [List.mem_singleton.1 hq]; exact ⟨hv, Int.le_refl _⟩
    · rw [if_pos hv] at e; cases e
  · rw [if_neg e, if_neg e]; exact h

/-! Finding. -/
/-- The first place from whose number on. -/
def place (es : List Pk) (n : Int) : Nat := es.findIdx (fun p => decide (n ≤ p.n))
set_option maxRecDepth 100000 in
theorem place_le (es : List Pk) (n : Int) : place es n ≤ es.length := List.findIdx_le_length
set_option maxRecDepth 100000 in
theorem rise_at {es : List Pk} (h : Rise es) {i j : Nat} (hij : i < j) (hj : j < es.length) : (at_ es i).n < (at_ es j).n := by
  rw [at_of (by omega), at_of hj]
  exact (List.pairwise_iff_getElem.1 h) i j (by omega) hj hij
set_option maxRecDepth 100000 in
theorem place_lt {es : List Pk} {n : Int} {i : Nat} (h : i < place es n) : (at_ es i).n < n := by
  have hl := place_le es n
  have := List.not_of_lt_findIdx h
  rw [at_of (by omega)]
  simpa using this
set_option maxRecDepth 100000 in
theorem place_ge {es : List Pk} (hr : Rise es) {n : Int} {i : Nat} (h : place es n ≤ i) (hi : i < es.length) : n ≤ (at_ es i).n := by
  have hp : place es n < es.length := by omega
  have h0 : n ≤ (at_ es (place es n)).n := by
    have := List.findIdx_getElem (w := hp)
    rw [at_of hp]
    exact of_decide_eq_true this
  rcases Nat.lt_or_ge (place es n) i with h1 | h1
  · have := rise_at hr h1 hi; omega
  · rw [show i = place es n by omega]; exact h0
set_option maxRecDepth 100000 in
theorem mem_at {es : List Pk} {p : Pk} (h : p ∈ es) : ∃ i, i < es.length ∧ at_ es i = p := by
  obtain ⟨i, hi, rfl⟩ := List.getElem_of_mem h
  exact ⟨i, hi, at_of hi⟩
/-- The packet with a number, if there is one. -/
def getO (l : List Pk) (n : Int) : Option Pk := l.find? (fun p => decide (p.n = n))
def getP (l : List Pk) (n : Int) : Pk := (getO l n).getD zero
def getB (l : List Pk) (n : Int) : Bool := (getO l n).isSome
set_option maxRecDepth 100000 in
theorem getO_some {l : List Pk} (hr : Rise l) {p : Pk} (hp : p ∈ l) : getO l p.n = some p := by
  unfold getO
  rw [List.find?_eq_some_iff_append]
  obtain ⟨a, b, rfl⟩ := List.append_of_mem hp
  refine ⟨by simp, a, b, rfl, fun q hq => ?_⟩
  have := (List.pairwise_append.1 hr).2.2 q hq p (by simp)
  simp; omega
set_option maxRecDepth 100000 in
theorem getO_none {l : List Pk} {n : Int} (h : ∀ p ∈ l, p.n ≠ n) : getO l n = none := by
  unfold getO
  rw [List.find?_eq_none]
  intro p hp
  simpa using h p hp
/-- Is a packet with that number at the place? -/
def foundB (es : List Pk) (n : Int) : Bool := decide (place es n < es.length) && (decide ((at_ es (place es n)).n = n) && real (at_ es (place es n)))
set_option maxRecDepth 100000 in
theorem found_yes {es : List Pk} (hr : Rise es) {n : Int} (h : foundB es n = true) : place es n < es.length ∧ (at_ es (place es n)).n = n ∧ real (at_ es (place es n)) = true ∧ getO (reals es) n = some (at_ es (place es n)) := by
  unfold foundB at h
  simp only [Bool.and_eq_true, decide_eq_true_eq] at h
  obtain ⟨h1, h2, h3⟩ := h
  refine ⟨h1, h2, h3, ?_⟩
  have hm : at_ es (place es n) ∈ reals es := List.mem_filter.2 ⟨at_mem h1, h3⟩
  have := getO_some (hr.filter _) hm
  rwa [h2] at this
set_option maxRecDepth 100000 in
theorem found_no {es : List Pk} (hr : Rise es) {n : Int} (h : foundB es n = false) : getO (reals es) n = none := by
  apply getO_none
  intro p hp e
  obtain ⟨hp1, hp2⟩ := List.mem_filter.1 hp
  obtain ⟨i, hi, rfl⟩ := mem_at hp1
  have h1 : place es n = i := by
    rcases Nat.lt_trichotomy (place es n) i with h1 | h1 | h1
    · have h2 := place_ge hr (Nat.le_refl (place es n)) (by omega)
      have := rise_at hr h1 hi; omega
    · exact h1
    · have := place_lt h1; omega
  unfold foundB at h
  rw [h1] at h
  simp [hi, e, hp2] at h

/-! Drop. -/
def dropL (l : List Pk) (n : Int) : List Pk := l.filter (fun p => decide (p.n ≠ n))
set_option maxRecDepth 100000 in
theorem dropL_none {l : List Pk} {n : Int} (h : getO l n = none) : dropL l n = l := by
  unfold dropL
  rw [List.filter_eq_self]
  intro p hp
  unfold getO at h
  rw [List.find?_eq_none] at h
  simpa using h p hp
set_option maxRecDepth 100000 in
theorem set_split {l : List Pk} {k : Nat} (h : k < l.length) (x : Pk) : l.set k x = l.take k ++ ([x] ++ l.drop (k + 1)) := by rw [List.set_eq_take_append_cons_drop, if_pos h]; rfl
set_option maxRecDepth 100000 in
theorem at_split {l : List Pk} {k : Nat} (h : k < l.length) : l = l.take k ++ ([at_ l k] ++ l.drop (k + 1)) := by
  rw [at_of h]
  show l = l.take k ++ (l[k] :: l.drop (k + 1))
  rw [List.getElem_cons_drop, List.take_append_drop]
set_option maxRecDepth 100000 in
theorem drop_set {es : List Pk} (hr : Rise es) {i : Nat} (hi : i < es.length) {n : Int} (hn : (at_ es i).n = n) : reals (es.set i (gap n)) = dropL (reals es) n := by
  have h1 : ∀ p ∈ es.take i, p.n ≠ n := fun p hp => by
    obtain ⟨j, hj, rfl⟩ := mem_at hp
    rw [List.length_take] at hj
    have e : at_ (es.take i) j = at_ es j := by
      conv => rhs; rw [at_split hi, at_left _ (by rw [List.length_take]; omega)]
    rw [e]
    have := rise_at hr (show j < i by omega) hi
    omega
  have h2 : ∀ p ∈ es.drop (i + 1), p.n ≠ n := fun p hp => by
    obtain ⟨j, hj, rfl⟩ := mem_at hp
    rw [List.length_drop] at hj
    have e : at_ (es.drop (i + 1)) j = at_ es (i + 1 + j) := by
      rw [at_of (by rw [List.length_drop]; exact hj), at_of (by omega), List.getElem_drop]
    rw [e]
    have := rise_at hr (show i < i + 1 + j by omega) (by omega)
    omega
  have k1 : ∀ l : List Pk, (∀ p ∈ l, p.n ≠ n) → dropL (reals l) n = reals l := fun l h => by
    unfold dropL; rw [List.filter_eq_self]
    intro p hp
    simpa using h p (List.mem_filter.1 hp).1
  have k2 : dropL (reals [at_ es i]) n = [] := by
    unfold dropL; rw [List.filter_eq_nil_iff]
    intro p hp
    have := (List.mem_filter.1 hp).1
    rw [List.mem_singleton.1 this]; simp [hn]
  rw [set_split hi, reals_append, reals_append, reals_one_no (real_gap n)]
  conv => rhs; rw [at_split hi, reals_append, reals_append]
  unfold dropL at k1 k2 ⊢
  rw [List.filter_append, List.filter_append, k1 _ h1, k1 _ h2, k2]
set_option maxRecDepth 100000 in
theorem Good.drop {room : Nat} {last : Int} {l : List Pk} (h : Good room last l) (n : Int) : Good room last (dropL l n) :=
  ⟨h.rise.filter _, fun p hp => h.good p (List.mem_filter.1 hp).1, Nat.le_trans (List.length_filter_le _ _) h.len, h.room1, h.last1⟩
set_option maxRecDepth 100000 in
theorem Good.nil {room : Nat} {last : Int} {l : List Pk} (h : Good room last l) : Good room last [] := ⟨List.Pairwise.nil, fun p h => (by cases h), Nat.zero_le _, h.room1, h.last1⟩
/-- Gaps ahead of all go. -/
def skip (es : List Pk) : List Pk := es.dropWhile (fun p => !real p)
set_option maxRecDepth 100000 in
theorem skip_cons_gap {p : Pk} (es : List Pk) (h : real p = false) : skip (p :: es) = skip es := by simp [skip, h]
set_option maxRecDepth 100000 in
theorem skip_cons_real {p : Pk} (es : List Pk) (h : real p = true) : skip (p :: es) = p :: es := by simp [skip, h]
set_option maxRecDepth 100000 in
theorem reals_skip (es : List Pk) : reals (skip es) = reals es := by induction es with
  | nil => rfl
  | cons p l ih =>
    cases h : real p with
    | true => rw [skip_cons_real l h]
    | false => rw [skip_cons_gap l h, ih]; simp [reals, h]

/-! Between. -/
def betw (l : List Pk) (lo hi : Int) : List Pk := l.filter (fun p => decide (lo ≤ p.n) && decide (p.n ≤ hi))
def upto (es : List Pk) (hi : Int) : Nat := es.findIdx (fun p => decide (hi < p.n))
set_option maxRecDepth 100000 in
theorem upto_eq (es : List Pk) (hi : Int) : upto es hi = place es (hi + 1) := by
  unfold upto place
  congr 1

/-- Those at places from a to before b. -/
def slice (es : List Pk) (a b : Nat) : List Pk := (es.take b).drop a
set_option maxRecDepth 100000 in
theorem betw_slice {es : List Pk} (hr : Rise es) (lo hi : Int) : reals (slice es (place es lo) (upto es hi)) = betw (reals es) lo hi := by
  have e0 : es = es.take (place es lo) ++ es.drop (place es lo) := (List.take_append_drop _ _).symm
  rw [upto_eq]
  unfold slice betw reals
  rw [List.filter_filter, List.drop_take]
  -- the part from the place on
  have hA : ∀ j, j < (es.drop (place es lo)).length → at_ (es.drop (place es lo)) j = at_ es (place es lo + j) := fun j hj => by
    rw [List.length_drop] at hj
    rw [at_of (by rw [List.length_drop]; exact hj), at_of (by omega), List.getElem_drop]
  have h1 : (es.take (place es lo)).filter (fun p => (decide (lo ≤ p.n) && decide (p.n ≤ hi)) && real p) = [] := by
    rw [List.filter_eq_nil_iff]
    intro p hp
    obtain ⟨j, hj, rfl⟩ := mem_at hp
    rw [List.length_take] at hj
    have e : at_ (es.take (place es lo)) j = at_ es j := by
      conv => rhs; rw [e0, at_left _ (by rw [List.length_take]; omega)]
    have := place_lt (es := es) (n := lo) (i := j) (by omega)
    rw [e]; simp; omega
  have e1 : (es.drop (place es lo)) = (es.drop (place es lo)).take (place es (hi + 1) - place es lo) ++ (es.drop (place es lo)).drop (place es (hi + 1) - place es lo) := (List.take_append_drop _ _).symm
  have h3 : ((es.drop (place es lo)).drop (place es (hi + 1) - place es lo)).filter (fun p => (decide (lo ≤ p.n) && decide (p.n ≤ hi)) && real p) = [] := by
    rw [List.filter_eq_nil_iff]
    intro p hp
    rw [List.drop_drop] at hp
    obtain ⟨j, hj, rfl⟩ := mem_at hp
    rw [List.length_drop] at hj
    rw [at_of (by rw [List.length_drop]; exact hj), List.getElem_drop, ← at_of]
    have := place_ge hr (n := hi + 1) (i := place es lo + (place es (hi + 1) - place es lo) + j) (by omega) (by omega)
    simp; intro _ _; omega
  have h2 : ((es.drop (place es lo)).take (place es (hi + 1) - place es lo)).filter (fun p => (decide (lo ≤ p.n) && decide (p.n ≤ hi)) && real p) = ((es.drop (place es lo)).take (place es (hi + 1) - place es lo)).filter real := by
    apply List.filter_congr
    intro p hp
    obtain ⟨j, hj, rfl⟩ := mem_at hp
    rw [List.length_take, List.length_drop] at hj
    have e2 : at_ ((es.drop (place es lo)).take (place es (hi + 1) - place es lo)) j = at_ es (place es lo + j) := by
      rw [at_of (by rw [List.length_take, List.length_drop]; exact hj), List.getElem_take, List.getElem_drop, ← at_of]
    rw [e2]
    have k1 := place_ge hr (n := lo) (i := place es lo + j) (by omega) (by omega)
    have k2 := place_lt (es := es) (n := hi + 1) (i := place es lo + j) (by omega)
    simp [k1]; omega
  conv => rhs; rw [e0, List.filter_append, h1, List.nil_append, e1, List.filter_append, h3, List.append_nil, h2]
set_option maxRecDepth 100000 in
theorem betw_all {room : Nat} {last : Int} {l : List Pk} (h : Good room last l) : betw l 0 M = l := by
  unfold betw
  rw [List.filter_eq_self]
  intro p hp
  have := (h.good p hp).1
  simp [this.1, this.2.1]

/-! Rings. -/
def Ring (room start : Nat) (X es : List Pk) : Prop := ∀ i, i < es.length → at_ X ((start + i) % room) = at_ es i
set_option maxRecDepth 100000 in
theorem wrap_ {room start i : Nat} (hs : start < room) (hi : i < room) : (start + i) % room = if start + i < room then start + i else start + i - room := by
  split
  · exact Nat.mod_eq_of_lt ‹_›
  · rw [Nat.mod_eq_sub_mod (by omega), Nat.mod_eq_of_lt (by omega)]
set_option maxRecDepth 100000 in
theorem wrap_inj {room start i j : Nat} (hs : start < room) (hi : i < room) (hj : j < room) (h : (start + i) % room = (start + j) % room) : i = j := by
  rw [wrap_ hs hi, wrap_ hs hj] at h
  split at h <;> split at h <;> omega
set_option maxRecDepth 100000 in
theorem wrap_lt {room start i : Nat} (hs : start < room) : (start + i) % room < room := Nat.mod_lt _ (by omega)
set_option maxRecDepth 100000 in
theorem Ring.put {room start : Nat} {X es : List Pk} (h : Ring room start X es) (hX : X.length = room) (hs : start < room) (hl : es.length < room) (p : Pk) : Ring room start (X.set ((start + es.length) % room) p) (es ++ [p]) := by
  intro i hi
  rw [List.length_append, List.length_singleton] at hi
  rw [at_set (by rw [hX]; exact wrap_lt hs)]
  by_cases e : i = es.length
  · subst e; rw [if_pos rfl, at_snoc]
  · rw [if_neg (fun e' => e (wrap_inj hs (by omega) hl e')), at_left _ (by omega)]; exact h i (by omega)
set_option maxRecDepth 100000 in
theorem Ring.set_ {room start : Nat} {X es : List Pk} (h : Ring room start X es) (hX : X.length = room) (hs : start < room) (hl : es.length ≤ room) {k : Nat} (hk : k < es.length) (p : Pk) : Ring room start (X.set ((start + k) % room) p) (es.set k p) := by
  intro i hi
  rw [List.length_set] at hi
  rw [at_set (by rw [hX]; exact wrap_lt hs), at_set hk]
  by_cases e : i = k
  · subst e; rw [if_pos rfl, if_pos rfl]
  · rw [if_neg (fun e' => e (wrap_inj hs (by omega) (by omega) e')), if_neg e]; exact h i hi
set_option maxRecDepth 100000 in
theorem Ring.tail {room start : Nat} {X es : List Pk} {p : Pk} (h : Ring room start X (p :: es)) (hs : start < room) (hl : es.length < room) : Ring room ((start + 1) % room) X es := by
  intro i hi
  have h1 := h (i + 1) (by simp; omega)
  have e1 : at_ (p :: es) (i + 1) = at_ es i := by simp [at_, List.getD]
  rw [e1] at h1
  rw [← h1, Nat.mod_add_mod, Nat.add_assoc, Nat.add_comm 1 i]
set_option maxRecDepth 100000 in
theorem Ring.nil (room start : Nat) (X : List Pk) : Ring room start X [] := fun i h => by cases h

end Go.Proofs.Ytdfjceghhjecaaa.SntM
