/-
  Plain mathematics of packets that were sent: logs, their totals, what is put, dropped, found; rings. Nothing here speaks of a program.
-/
import Derived.Test.YtilkgjpgoogiiaaGreatWrdabJ17a
import Derived.Deep.Cut
import Derived.Deep.CutRange
import Derived.Shelf.Abstract
import Derived.Deep.LoopGhost
set_option maxRecDepth 100000
set_option maxHeartbeats 16000000
set_option linter.unusedVariables false
set_option linter.unusedSimpArgs false
namespace Go.Proofs.YtilkgjpgoogiiaaGreat.SntM
open Cd
structure Pk where
  n : Int
  t : Int
  s : Int
  e : Bool
  f : Bool
  c : Bool
theorem Pk.ext' {a b : Pk} (h1 : a.n = b.n) (h2 : a.t = b.t) (h3 : a.s = b.s) (h4 : a.e = b.e) (h5 : a.f = b.f) (h6 : a.c = b.c) : a = b := by
  cases a; cases b; simp_all
instance : DecidableEq Pk := fun a b => decidable_of_iff (a.n = b.n ∧ a.t = b.t ∧ a.s = b.s ∧ a.e = b.e ∧ a.f = b.f ∧ a.c = b.c)
  ⟨fun h => Pk.ext' h.1 h.2.1 h.2.2.1 h.2.2.2.1 h.2.2.2.2.1 h.2.2.2.2.2, fun h => by subst h; simp⟩
def gap (n : Int) : Pk := ⟨n, 0, 0, false, false, false⟩
instance : Inhabited Pk := ⟨gap 0⟩
def zero : Pk := gap 0
def M : Int := 9007199254740991
def valid (p : Pk) : Prop := 0 ≤ p.n ∧ p.n ≤ M ∧ 0 ≤ p.t ∧ p.t ≤ M ∧ 1 ≤ p.s ∧ p.s ≤ 65535
instance (p : Pk) : Decidable (valid p) := by unfold valid; infer_instance
def validB (p : Pk) : Bool := decide (valid p)
def fly : List Pk → Int
  | [] => 0
  | p :: l => (if p.f = true then p.s else 0) + fly l
def eli : List Pk → Int
  | [] => 0
  | p :: l => (if p.f = true then (if p.e = true then 1 else 0) else 0) + eli l
theorem fly_append (a b : List Pk) : fly (a ++ b) = fly a + fly b := by induction a with
  | nil => simp [fly]
  | cons p l ih => simp [fly, ih]; omega
theorem eli_append (a b : List Pk) : eli (a ++ b) = eli a + eli b := by induction a with
  | nil => simp [eli]
  | cons p l ih => simp [eli, ih]; omega
theorem fly_bd {l : List Pk} (h : ∀ p ∈ l, 0 ≤ p.s ∧ p.s ≤ 65535) : 0 ≤ fly l ∧ fly l ≤ 65535 * l.length := by induction l with
  | nil => simp [fly]
  | cons p l ih =>
    have h1 := ih (fun q hq => h q (by simp [hq]))
    have h2 := h p (by simp)
    simp only [fly, List.length_cons]
    split <;> omega
theorem eli_bd (l : List Pk) : 0 ≤ eli l ∧ eli l ≤ l.length := by induction l with
  | nil => simp [eli]
  | cons p l ih =>
    simp only [eli, List.length_cons]
    split
    · split <;> omega
    · omega
def real (p : Pk) : Bool := decide (p.s ≠ 0)
def reals (l : List Pk) : List Pk := l.filter real
theorem reals_append (a b : List Pk) : reals (a ++ b) = reals a ++ reals b := by unfold reals; exact List.filter_append _ _
theorem real_gap (n : Int) : real (gap n) = false := by simp [real, gap]
theorem real_valid {p : Pk} (h : valid p) : real p = true := by
  have := h.2.2.2.2.1
  unfold real; exact decide_eq_true (by omega)
theorem reals_one_yes {p : Pk} (h : real p = true) : reals [p] = [p] := by simp [reals, h]
theorem reals_one_no {p : Pk} (h : real p = false) : reals [p] = [] := by simp [reals, h]
theorem reals_len (l : List Pk) : (reals l).length ≤ l.length := List.length_filter_le _ _
abbrev Rise (l : List Pk) : Prop := l.Pairwise (fun a b => a.n < b.n)
structure Ok (room : Nat) (last : Int) (es : List Pk) : Prop where
  rise : Rise es
  good : ∀ p ∈ es, (valid p ∨ p = gap p.n) ∧ 0 ≤ p.n ∧ p.n ≤ last
  len : es.length ≤ room
  room1 : 1 ≤ room ∧ room ≤ 256
  head : ∀ p, es.head? = some p → real p = true
  last1 : -1 ≤ last ∧ last ≤ M
structure Good (room : Nat) (last : Int) (l : List Pk) : Prop where
  rise : Rise l
  good : ∀ p ∈ l, valid p ∧ p.n ≤ last
  len : l.length ≤ room
  room1 : 1 ≤ room ∧ room ≤ 256
  last1 : -1 ≤ last ∧ last ≤ M
theorem Ok.size {room : Nat} {last : Int} {es : List Pk} (h : Ok room last es) : ∀ p ∈ es, 0 ≤ p.s ∧ p.s ≤ 65535 := fun p hp => by
  rcases (h.good p hp).1 with h | h
  · have := h.2.2.2.2; omega
  · rw [h]; simp [gap]
theorem Ok.real_ {room : Nat} {last : Int} {es : List Pk} (h : Ok room last es) {p : Pk} (hp : p ∈ es) (hr : real p = true) : valid p := by
  rcases (h.good p hp).1 with h | h
  · exact h
  · rw [h, real_gap] at hr; cases hr
theorem Ok.gap_ {room : Nat} {last : Int} {es : List Pk} (h : Ok room last es) {p : Pk} (hp : p ∈ es) (hr : real p = false) : p = gap p.n := by
  rcases (h.good p hp).1 with h | h
  · rw [real_valid h] at hr; cases hr
  · exact h
theorem Ok.reals_ {room : Nat} {last : Int} {es : List Pk} (h : Ok room last es) : Good room last (reals es) :=
  ⟨h.rise.filter _, fun p hp => by
    have h1 := List.mem_filter.1 hp
    exact ⟨h.real_ h1.1 h1.2, (h.good p h1.1).2.2⟩, Nat.le_trans (reals_len es) h.len, h.room1, h.last1⟩
theorem Ok.dense {room : Nat} {last : Int} {es : List Pk} (h : Ok room last es) : Ok room last (reals es) :=
  ⟨h.rise.filter _, fun p hp => h.good p (List.mem_filter.1 hp).1, Nat.le_trans (reals_len es) h.len, h.room1, fun p hp => by
    have : p ∈ reals es := List.mem_of_mem_head? (by rw [hp]; exact rfl)
    exact (List.mem_filter.1 this).2, h.last1⟩
theorem Ok.nil {room : Nat} {last : Int} (h1 : 1 ≤ room ∧ room ≤ 256) (h2 : -1 ≤ last ∧ last ≤ M) : Ok room last [] := ⟨List.Pairwise.nil, fun p h => (by cases h), Nat.zero_le _, h1, (fun p h => by cases h), h2⟩
theorem reals_reals (l : List Pk) : reals (reals l) = reals l := by unfold reals; rw [List.filter_filter]; simp
/-! Put. -/
def putErr (room : Nat) (last : Int) (l : List Pk) (p : Pk) : Int := if ¬ valid p then 2 else if p.n ≤ last then 60 else if l.length = room then 5 else 0
def putL (room : Nat) (last : Int) (l : List Pk) (p : Pk) : List Pk := if putErr room last l p = 0 then l ++ [p] else l
def putTop (room : Nat) (last : Int) (l : List Pk) (p : Pk) : Int := if putErr room last l p = 0 then p.n else last
theorem Ok.put {room : Nat} {last : Int} {es : List Pk} (h : Ok room last es) {p : Pk} (hv : valid p) (hn : last < p.n) (hl : es.length < room) : Ok room p.n (es ++ [p]) :=
  ⟨List.pairwise_append.2 ⟨h.rise, List.pairwise_singleton _ _, fun a ha b hb => by rw [List.mem_singleton.1 hb]; have := (h.good a ha).2.2; omega⟩,
   fun q hq => by
    rcases List.mem_append.1 hq with hq | hq
    · have := h.good q hq; exact ⟨this.1, this.2.1, by omega⟩
    · rw [List.mem_singleton.1 hq]; exact ⟨.inl hv, hv.1, Int.le_refl _⟩,
   by simp; omega, h.room1, fun q hq => by
    cases es with
    | nil => simp at hq; rw [← hq]; exact real_valid hv
    | cons a t => simp at hq; exact h.head q (by simp [hq]), by have := hv.1; have := hv.2.1; omega⟩
theorem Good.put {room : Nat} {last : Int} {l : List Pk} (h : Good room last l) (p : Pk) : Good room (putTop room last l p) (putL room last l p) := by
  unfold putTop putL
  by_cases e : putErr room last l p = 0
  · rw [if_pos e, if_pos e]
    unfold putErr at e
    by_cases hv : valid p
    · rw [if_neg (by simpa using hv)] at e
      by_cases hn : p.n ≤ last
      · rw [if_pos hn] at e; cases e
      · rw [if_neg hn] at e
        by_cases hl : l.length = room
        · rw [if_pos hl] at e; cases e
        · have := h.len
          refine ⟨List.pairwise_append.2 ⟨h.rise, List.pairwise_singleton _ _, fun a ha b hb => by rw [List.mem_singleton.1 hb]; have := (h.good a ha).2; omega⟩, fun q hq => ?_, by simp; omega, h.room1, by have := hv.1; have := hv.2.1; omega⟩
          rcases List.mem_append.1 hq with hq | hq
          · have := h.good q hq; exact ⟨this.1, by omega⟩
          · rw [List.mem_singleton.1 hq]; exact ⟨hv, Int.le_refl _⟩
    · rw [if_pos hv] at e; cases e
  · rw [if_neg e, if_neg e]; exact h
/-! Finding. -/
def place (es : List Pk) (n : Int) : Nat := es.findIdx (fun p => decide (n ≤ p.n))
theorem place_le (es : List Pk) (n : Int) : place es n ≤ es.length := List.findIdx_le_length
theorem rise_at {es : List Pk} (h : Rise es) {i j : Nat} (hij : i < j) (hj : j < es.length) : (at_ es i).n < (at_ es j).n := by
  rw [at_of (by omega), at_of hj]
  exact (List.pairwise_iff_getElem.1 h) i j (by omega) hj hij
theorem place_lt {es : List Pk} {n : Int} {i : Nat} (h : i < place es n) : (at_ es i).n < n := by
  have hl := place_le es n
  have := List.not_of_lt_findIdx h
  rw [at_of (by omega)]
  simpa using this
theorem place_ge {es : List Pk} (hr : Rise es) {n : Int} {i : Nat} (h : place es n ≤ i) (hi : i < es.length) : n ≤ (at_ es i).n := by
  have hp : place es n < es.length := by omega
  have h0 : n ≤ (at_ es (place es n)).n := by
    have := List.findIdx_getElem (w := hp)
    rw [at_of hp]
    exact of_decide_eq_true this
  rcases Nat.lt_or_ge (place es n) i with h1 | h1
  · have := rise_at hr h1 hi; omega
  · rw [show i = place es n by omega]; exact h0
theorem mem_at {es : List Pk} {p : Pk} (h : p ∈ es) : ∃ i, i < es.length ∧ at_ es i = p := by
  obtain ⟨i, hi, rfl⟩ := List.getElem_of_mem h
  exact ⟨i, hi, at_of hi⟩
def getO (l : List Pk) (n : Int) : Option Pk := l.find? (fun p => decide (p.n = n))
def getP (l : List Pk) (n : Int) : Pk := (getO l n).getD zero
def getB (l : List Pk) (n : Int) : Bool := (getO l n).isSome
theorem getO_some {l : List Pk} (hr : Rise l) {p : Pk} (hp : p ∈ l) : getO l p.n = some p := by
  unfold getO
  rw [List.find?_eq_some_iff_append]
  obtain ⟨a, b, rfl⟩ := List.append_of_mem hp
  refine ⟨by simp, a, b, rfl, fun q hq => ?_⟩
  have := (List.pairwise_append.1 hr).2.2 q hq p (by simp)
  simp; omega
theorem getO_none {l : List Pk} {n : Int} (h : ∀ p ∈ l, p.n ≠ n) : getO l n = none := by
  unfold getO
  rw [List.find?_eq_none]
  intro p hp
  simpa using h p hp
def foundB (es : List Pk) (n : Int) : Bool := decide (place es n < es.length) && (decide ((at_ es (place es n)).n = n) && real (at_ es (place es n)))
theorem found_yes {es : List Pk} (hr : Rise es) {n : Int} (h : foundB es n = true) : place es n < es.length ∧ (at_ es (place es n)).n = n ∧ real (at_ es (place es n)) = true ∧ getO (reals es) n = some (at_ es (place es n)) := by
  unfold foundB at h
  simp only [Bool.and_eq_true, decide_eq_true_eq] at h
  obtain ⟨h1, h2, h3⟩ := h
  refine ⟨h1, h2, h3, ?_⟩
  have hm : at_ es (place es n) ∈ reals es := List.mem_filter.2 ⟨at_mem h1, h3⟩
  have := getO_some (hr.filter _) hm
  rwa [h2] at this
theorem found_no {es : List Pk} (hr : Rise es) {n : Int} (h : foundB es n = false) : getO (reals es) n = none := by
  apply getO_none
  intro p hp e
  obtain ⟨hp1, hp2⟩ := List.mem_filter.1 hp
  obtain ⟨i, hi, rfl⟩ := mem_at hp1
  have h1 : place es n = i := by
    rcases Nat.lt_trichotomy (place es n) i with h1 | h1 | h1
    · have h2 := place_ge hr (Nat.le_refl (place es n)) (by omega)
      have := rise_at hr h1 hi; omega
    · exact h1
    · have := place_lt h1; omega
  unfold foundB at h
  rw [h1] at h
  simp [hi, e, hp2] at h
/-! Drop. -/
def dropL (l : List Pk) (n : Int) : List Pk := l.filter (fun p => decide (p.n ≠ n))
theorem dropL_none {l : List Pk} {n : Int} (h : getO l n = none) : dropL l n = l := by
  unfold dropL
  rw [List.filter_eq_self]
  intro p hp
  unfold getO at h
  rw [List.find?_eq_none] at h
  simpa using h p hp
theorem set_split {l : List Pk} {k : Nat} (h : k < l.length) (x : Pk) : l.set k x = l.take k ++ ([x] ++ l.drop (k + 1)) := by rw [List.set_eq_take_append_cons_drop, if_pos h]; rfl
theorem at_split {l : List Pk} {k : Nat} (h : k < l.length) : l = l.take k ++ ([at_ l k] ++ l.drop (k + 1)) := by
  rw [at_of h]
  show l = l.take k ++ (l[k] :: l.drop (k + 1))
  rw [List.getElem_cons_drop, List.take_append_drop]
theorem drop_set {es : List Pk} (hr : Rise es) {i : Nat} (hi : i < es.length) {n : Int} (hn : (at_ es i).n = n) : reals (es.set i (gap n)) = dropL (reals es) n := by
  have h1 : ∀ p ∈ es.take i, p.n ≠ n := fun p hp => by
    obtain ⟨j, hj, rfl⟩ := mem_at hp
    rw [List.length_take] at hj
    have e : at_ (es.take i) j = at_ es j := by
      conv => rhs; rw [at_split hi, at_left _ (by rw [List.length_take]; omega)]
    rw [e]
    have := rise_at hr (show j < i by omega) hi
    omega
  have h2 : ∀ p ∈ es.drop (i + 1), p.n ≠ n := fun p hp => by
    obtain ⟨j, hj, rfl⟩ := mem_at hp
    rw [List.length_drop] at hj
    have e : at_ (es.drop (i + 1)) j = at_ es (i + 1 + j) := by
      rw [at_of (by rw [List.length_drop]; exact hj), at_of (by omega), List.getElem_drop]
    rw [e]
    have := rise_at hr (show i < i + 1 + j by omega) (by omega)
    omega
  have k1 : ∀ l : List Pk, (∀ p ∈ l, p.n ≠ n) → dropL (reals l) n = reals l := fun l h => by
    unfold dropL; rw [List.filter_eq_self]
    intro p hp
    simpa using h p (List.mem_filter.1 hp).1
  have k2 : dropL (reals [at_ es i]) n = [] := by
    unfold dropL; rw [List.filter_eq_nil_iff]
    intro p hp
    have := (List.mem_filter.1 hp).1
    rw [List.mem_singleton.1 this]; simp [hn]
  rw [set_split hi, reals_append, reals_append, reals_one_no (real_gap n)]
  conv => rhs; rw [at_split hi, reals_append, reals_append]
  unfold dropL at k1 k2 ⊢
  rw [List.filter_append, List.filter_append, k1 _ h1, k1 _ h2, k2]
theorem Good.drop {room : Nat} {last : Int} {l : List Pk} (h : Good room last l) (n : Int) : Good room last (dropL l n) :=
  ⟨h.rise.filter _, fun p hp => h.good p (List.mem_filter.1 hp).1, Nat.le_trans (List.length_filter_le _ _) h.len, h.room1, h.last1⟩
theorem Good.nil {room : Nat} {last : Int} {l : List Pk} (h : Good room last l) : Good room last [] := ⟨List.Pairwise.nil, fun p h => (by cases h), Nat.zero_le _, h.room1, h.last1⟩
def skip (es : List Pk) : List Pk := es.dropWhile (fun p => !real p)
theorem skip_cons_gap {p : Pk} (es : List Pk) (h : real p = false) : skip (p :: es) = skip es := by simp [skip, h]
theorem skip_cons_real {p : Pk} (es : List Pk) (h : real p = true) : skip (p :: es) = p :: es := by simp [skip, h]
theorem reals_skip (es : List Pk) : reals (skip es) = reals es := by induction es with
  | nil => rfl
  | cons p l ih =>
    cases h : real p with
    | true => rw [skip_cons_real l h]
    | false => rw [skip_cons_gap l h, ih]; simp [reals, h]
/-! Between. -/
def betw (l : List Pk) (lo hi : Int) : List Pk := l.filter (fun p => decide (lo ≤ p.n) && decide (p.n ≤ hi))
def upto (es : List Pk) (hi : Int) : Nat := es.findIdx (fun p => decide (hi < p.n))
theorem upto_eq (es : List Pk) (hi : Int) : upto es hi = place es (hi + 1) := by
  unfold upto place
  congr 1
def slice (es : List Pk) (a b : Nat) : List Pk := (es.take b).drop a
theorem betw_slice {es : List Pk} (hr : Rise es) (lo hi : Int) : reals (slice es (place es lo) (upto es hi)) = betw (reals es) lo hi := by
  have e0 : es = es.take (place es lo) ++ es.drop (place es lo) := (List.take_append_drop _ _).symm
  rw [upto_eq]
  unfold slice betw reals
  rw [List.filter_filter, List.drop_take]
  -- the part from the place on
  have hA : ∀ j, j < (es.drop (place es lo)).length → at_ (es.drop (place es lo)) j = at_ es (place es lo + j) := fun j hj => by
    rw [List.length_drop] at hj
    rw [at_of (by rw [List.length_drop]; exact hj), at_of (by omega), List.getElem_drop]
  have h1 : (es.take (place es lo)).filter (fun p => (decide (lo ≤ p.n) && decide (p.n ≤ hi)) && real p) = [] := by
    rw [List.filter_eq_nil_iff]
    intro p hp
    obtain ⟨j, hj, rfl⟩ := mem_at hp
    rw [List.length_take] at hj
    have e : at_ (es.take (place es lo)) j = at_ es j := by
      conv => rhs; rw [e0, at_left _ (by rw [List.length_take]; omega)]
    have := place_lt (es := es) (n := lo) (i := j) (by omega)
    rw [e]; simp; omega
  have e1 : (es.drop (place es lo)) = (es.drop (place es lo)).take (place es (hi + 1) - place es lo) ++ (es.drop (place es lo)).drop (place es (hi + 1) - place es lo) := (List.take_append_drop _ _).symm
  have h3 : ((es.drop (place es lo)).drop (place es (hi + 1) - place es lo)).filter (fun p => (decide (lo ≤ p.n) && decide (p.n ≤ hi)) && real p) = [] := by
    rw [List.filter_eq_nil_iff]
    intro p hp
    rw [List.drop_drop] at hp
    obtain ⟨j, hj, rfl⟩ := mem_at hp
    rw [List.length_drop] at hj
    rw [at_of (by rw [List.length_drop]; exact hj), List.getElem_drop, ← at_of]
    have := place_ge hr (n := hi + 1) (i := place es lo + (place es (hi + 1) - place es lo) + j) (by omega) (by omega)
    simp; intro _ _; omega
  have h2 : ((es.drop (place es lo)).take (place es (hi + 1) - place es lo)).filter (fun p => (decide (lo ≤ p.n) && decide (p.n ≤ hi)) && real p) = ((es.drop (place es lo)).take (place es (hi + 1) - place es lo)).filter real := by
    apply List.filter_congr
    intro p hp
    obtain ⟨j, hj, rfl⟩ := mem_at hp
    rw [List.length_take, List.length_drop] at hj
    have e2 : at_ ((es.drop (place es lo)).take (place es (hi + 1) - place es lo)) j = at_ es (place es lo + j) := by
      rw [at_of (by rw [List.length_take, List.length_drop]; exact hj), List.getElem_take, List.getElem_drop, ← at_of]
    rw [e2]
    have k1 := place_ge hr (n := lo) (i := place es lo + j) (by omega) (by omega)
    have k2 := place_lt (es := es) (n := hi + 1) (i := place es lo + j) (by omega)
    simp [k1]; omega
  conv => rhs; rw [e0, List.filter_append, h1, List.nil_append, e1, List.filter_append, h3, List.append_nil, h2]
theorem betw_all {room : Nat} {last : Int} {l : List Pk} (h : Good room last l) : betw l 0 M = l := by
  unfold betw
  rw [List.filter_eq_self]
  intro p hp
  have := (h.good p hp).1
  simp [this.1, this.2.1]
/-! Rings. -/
def Ring (room start : Nat) (X es : List Pk) : Prop := ∀ i, i < es.length → at_ X ((start + i) % room) = at_ es i
theorem wrap_ {room start i : Nat} (hs : start < room) (hi : i < room) : (start + i) % room = if start + i < room then start + i else start + i - room := by
  split
  · exact Nat.mod_eq_of_lt ‹_›
  · rw [Nat.mod_eq_sub_mod (by omega), Nat.mod_eq_of_lt (by omega)]
theorem wrap_inj {room start i j : Nat} (hs : start < room) (hi : i < room) (hj : j < room) (h : (start + i) % room = (start + j) % room) : i = j := by
  rw [wrap_ hs hi, wrap_ hs hj] at h
  split at h <;> split at h <;> omega
theorem wrap_lt {room start i : Nat} (hs : start < room) : (start + i) % room < room := Nat.mod_lt _ (by omega)
theorem Ring.put {room start : Nat} {X es : List Pk} (h : Ring room start X es) (hX : X.length = room) (hs : start < room) (hl : es.length < room) (p : Pk) : Ring room start (X.set ((start + es.length) % room) p) (es ++ [p]) := by
  intro i hi
  rw [List.length_append, List.length_singleton] at hi
  rw [at_set (by rw [hX]; exact wrap_lt hs)]
  by_cases e : i = es.length
  · subst e; rw [if_pos rfl, at_snoc]
  · rw [if_neg (fun e' => e (wrap_inj hs (by omega) hl e')), at_left _ (by omega)]; exact h i (by omega)
theorem Ring.set_ {room start : Nat} {X es : List Pk} (h : Ring room start X es) (hX : X.length = room) (hs : start < room) (hl : es.length ≤ room) {k : Nat} (hk : k < es.length) (p : Pk) : Ring room start (X.set ((start + k) % room) p) (es.set k p) := by
  intro i hi
  rw [List.length_set] at hi
  rw [at_set (by rw [hX]; exact wrap_lt hs), at_set hk]
  by_cases e : i = k
  · subst e; rw [if_pos rfl, if_pos rfl]
  · rw [if_neg (fun e' => e (wrap_inj hs (by omega) (by omega) e')), if_neg e]; exact h i hi
theorem Ring.tail {room start : Nat} {X es : List Pk} {p : Pk} (h : Ring room start X (p :: es)) (hs : start < room) (hl : es.length < room) : Ring room ((start + 1) % room) X es := by
  intro i hi
  have h1 := h (i + 1) (by simp; omega)
  have e1 : at_ (p :: es) (i + 1) = at_ es i := by simp [at_, List.getD]
  rw [e1] at h1
  rw [← h1, Nat.mod_add_mod, Nat.add_assoc, Nat.add_comm 1 i]
theorem Ring.nil (room start : Nat) (X : List Pk) : Ring room start X [] := fun i h => by cases h
end Go.Proofs.YtilkgjpgoogiiaaGreat.SntM
namespace Go.Proofs.YtilkgjpgoogiiaaGreat.Snt
open Go.RowKit SntM Cd Wd
def pkC : Cod Pk where
  enc p := [.int .i64 p.n, .int .i64 p.t, .int .i64 p.s, .bool p.e, .bool p.f, .bool p.c]
  size := 6
  pos := by decide
  len _ := rfl
  one p u h := by
    simp only [List.mem_cons, List.not_mem_nil, or_false] at h
    rcases h with rfl | rfl | rfl | rfl | rfl | rfl <;> rfl
  inj a b h := by
    simp only [List.cons.injEq, Value.int.injEq, Value.bool.injEq, true_and, and_true] at h
    exact Pk.ext' h.1 h.2.1 h.2.2.1 h.2.2.2.1 h.2.2.2.2.1 h.2.2.2.2.2
abbrev pkV (p : Pk) : Value := .agg #[.int .i64 p.n, .int .i64 p.t, .int .i64 p.s, .bool p.e, .bool p.f, .bool p.c]
abbrev pkA (p : Pk) : Array Value := #[.int .i64 p.n, .int .i64 p.t, .int .i64 p.s, .bool p.e, .bool p.f, .bool p.c]
theorem info_pk : (Tryz.prog.info? 32).map (fun i => (i.zero, i.size, i.bytes)) = some (some (.agg #[.int .i64 0, .int .i64 0, .int .i64 0, .bool false, .bool false, .bool false]), 6, 32) := by kernel_rfl
noncomputable def pkE : Elt Tryz.prog pkC 42 32 :=
  { i := (info_parts info_pk).choose
    z := .agg #[.int .i64 0, .int .i64 0, .int .i64 0, .bool false, .bool false, .bool false]
    bytes := 32
    und := Tryz.underlying42
    info := (info_parts info_pk).choose_spec.1
    zero := (info_parts info_pk).choose_spec.2.1
    size := (info_parts info_pk).choose_spec.2.2.1
    byt := (info_parts info_pk).choose_spec.2.2.2
    zs := rfl
    few := by decide }
abbrev PRow (w : World) (A : Option Addr) (n c : Nat) (l : List Pk) : Prop := Rw pkC 32 w A n c l
theorem prow_cells {w : World} {g n c k : Nat} {l : List Pk} (h : PRow w (some ⟨g, 0, none⟩) n c l) (hk : k < n) :
    w.cell? ⟨g, k * 6, none⟩ = some (.int .i64 (at_ l k).n) ∧ w.cell? ⟨g, k * 6 + 1, none⟩ = some (.int .i64 (at_ l k).t) ∧ w.cell? ⟨g, k * 6 + 2, none⟩ = some (.int .i64 (at_ l k).s) ∧
    w.cell? ⟨g, k * 6 + 3, none⟩ = some (.bool (at_ l k).e) ∧ w.cell? ⟨g, k * 6 + 4, none⟩ = some (.bool (at_ l k).f) ∧ w.cell? ⟨g, k * 6 + 5, none⟩ = some (.bool (at_ l k).c) :=
  ⟨h.cell hk (j := 0) (by decide), h.cell hk (j := 1) (by decide), h.cell hk (j := 2) (by decide), h.cell hk (j := 3) (by decide), h.cell hk (j := 4) (by decide), h.cell hk (j := 5) (by decide)⟩
def GBool (b : Bool) (w : World) (e : Ending) (w' : World) : Prop := e = .returned (.bool b) ∧ Kept w w'
def GInt (n : Int) (w : World) (e : Ending) (w' : World) : Prop := e = .returned (.int .i64 n) ∧ Kept w w'
def Quiet (v : Value) (w : World) (e : Ending) (w' : World) : Prop := e = .returned v ∧ ∃ m, w' = w.drewN m
def Unit_ (R : World → Prop) (e : Ending) (w' : World) : Prop := e = .returned (.tuple #[]) ∧ R w'
abbrev LogB (w : World) (p g c room start used : Nat) (last pk fl el : Int) : Prop :=
  Blk w p 124 #[.slice (some ⟨g, 0, none⟩) room c, .int .i64 start, .int .i64 used, .int .i64 last, .int .i64 pk, .int .i64 fl, .int .i64 el]
theorem absent_some (p g c room : Nat) (w : World) (h : w.cell? ⟨p, 0, none⟩ = some (.slice (some ⟨g, 0, none⟩) room c)) (hr : 1 ≤ room ∧ room ≤ 256) : Calls Tryz.prog 113 #[.pointer (some ⟨p, 0, none⟩)] w fun e w' => e = .returned (.bool false) ∧ w = w' := by
  have hz : ((room : Int) == 0) = false := by simp only [beq_eq_false_iff_ne]; omega
  go_enter Tryz.func113, Tryz.ntmps113
  go_wp2
  go_ret
  exact ⟨rfl, rfl⟩
theorem absent_nil (w : World) : Calls Tryz.prog 113 #[.pointer none] w fun e w' => e = .returned (.bool true) ∧ w = w' := by
  go_enter Tryz.func113, Tryz.ntmps113
  go_wp2
  go_ret
  exact ⟨rfl, rfl⟩
theorem absent_zero (p : Nat) (w : World) (h : w.cell? ⟨p, 0, none⟩ = some (.slice none 0 0)) : Calls Tryz.prog 113 #[.pointer (some ⟨p, 0, none⟩)] w fun e w' => e = .returned (.bool true) ∧ w = w' := by
  go_enter Tryz.func113, Tryz.ntmps113
  go_wp2
  go_ret
  exact ⟨rfl, rfl⟩
theorem at_any (p g c room start i : Nat) (w : World) (h0 : w.cell? ⟨p, 0, none⟩ = some (.slice (some ⟨g, 0, none⟩) room c)) (h1 : w.cell? ⟨p, 1, none⟩ = some (.int .i64 start)) (hr : 1 ≤ room ∧ room ≤ 256) (hc : room ≤ c) (hs : start < room) (hi : i < room) :
    Calls Tryz.prog 127 #[.pointer (some ⟨p, 0, none⟩), .int .i64 i] w (Quiet (.pointer (some ⟨g, ((start + i) % room) * 6, none⟩)) w) := by
  have hw : IntKind.i64.wrap ((start : Int) + (i : Int)) = (start : Int) + (i : Int) := IntWalk.i64_in _ (by omega)
  have hm : ((start : Int) + (i : Int)).tmod (room : Int) = (((start + i) % room : Nat) : Int) := by
    rw [Int.tmod_eq_emod_of_nonneg (by omega), ← Int.natCast_add, Int.natCast_emod]
  have hl := wrap_lt (i := i) hs
  have hz : ((room : Int) == 0) = false := by simp only [beq_eq_false_iff_ne]; omega
  generalize (start + i) % room = q at *
  have hq0 : (0 : Int) ≤ (q : Int) := by omega
  have hq1 : (q : Int) < (room : Int) := by omega
  go_enter Tryz.func127, Tryz.ntmps127
  go_wp2_with fail
  go_quiet (fail)
  go_wp2
  go_ret
  exact ⟨rfl, _, rfl⟩
theorem isGap_any (p : Pk) (w : World) : Calls Tryz.prog 154 #[pkV p] w (GBool (!real p) w) := by
  have hb : (!real p) = (p.s == 0) := by unfold real; by_cases h : p.s = 0 <;> simp [h]
  rw [hb]
  clear hb
  go_enter Tryz.func154, Tryz.ntmps154
  go_wp2
  go_ret
  exact ⟨rfl, (Kept.refl w).alloc _⟩
theorem gap_any (n : Int) (w : World) : Calls Tryz.prog 140 #[.int .i64 n] w fun e w' => e = .returned (pkV (gap n)) ∧ Kept w w' := by
  have b0 := Blk.new w 32 (pkA (gap n))
  have r0 := b0.cell 0
  have r1 := b0.cell 1
  have r2 := b0.cell 2
  have r3 := b0.cell 3
  have r4 := b0.cell 4
  have r5 := b0.cell 5
  go_enter Tryz.func140, Tryz.ntmps140
  go_wp2_with fail
  refine bodyPost_ret (v := pkV (gap n)) ?_ rfl ⟨rfl, (Kept.refl w).alloc _⟩
  simp [results, Tryz.f140, go_sem, r0, r1, r2, r3, r4, r5, gap]
def withinB (n a b : Int) : Bool := decide (a ≤ n) && decide (n ≤ b)
theorem within_any (n a b : Int) (w : World) : Calls Tryz.prog 194 #[.int .i64 n, .int .i64 a, .int .i64 b] w fun e w' => e = .returned (.bool (withinB n a b)) ∧ w = w' := by
  by_cases h1 : a ≤ n
  · by_cases h2 : n ≤ b
    · have h : Hid (withinB n a b = true) := by show _ = _; simp [withinB, h1, h2]
      go_enter Tryz.func194, Tryz.ntmps194
      go_wp2
      go_ret
      exact ⟨ret_bool h.out.symm, rfl⟩
    · have h : Hid (withinB n a b = false) := by show _ = _; simp [withinB, h1, h2]
      go_enter Tryz.func194, Tryz.ntmps194
      go_wp2
      go_ret
      exact ⟨ret_bool h.out.symm, rfl⟩
  · have h : Hid (withinB n a b = false) := by show _ = _; simp [withinB, h1]
    go_enter Tryz.func194, Tryz.ntmps194
    go_wp2
    go_ret
    exact ⟨ret_bool h.out.symm, rfl⟩
theorem validB_eq (p : Pk) : validB p = (withinB p.n 0 9007199254740991 && (withinB p.t 0 9007199254740991 && withinB p.s 1 65535)) := by
  unfold validB withinB
  rw [Bool.eq_iff_iff]
  simp only [decide_eq_true_eq, Bool.and_eq_true]
  unfold valid M
  constructor
  · rintro ⟨a, b, c, d, e, f⟩; exact ⟨⟨a, b⟩, ⟨c, d⟩, e, f⟩
  · rintro ⟨⟨a, b⟩, ⟨c, d⟩, e, f⟩; exact ⟨a, b, c, d, e, f⟩
theorem isValid_any (p : Pk) (w : World) : Calls Tryz.prog 166 #[pkV p] w (GBool (validB p) w) := by
  have e := Lib.hid (validB_eq p)
  obtain ⟨n, t, s, e1, f, c⟩ := p
  have h1 := fun w => within_any n 0 9007199254740991 w
  have h2 := fun w => within_any t 0 9007199254740991 w
  have h3 := fun w => within_any s 1 65535 w
  generalize withinB n 0 9007199254740991 = b1 at *
  generalize withinB t 0 9007199254740991 = b2 at *
  generalize withinB s 1 65535 = b3 at *
  rw [e.out]
  clear e
  have k := Lib.hid ((Kept.refl w).alloc (.cells #[.int .i64 n, .int .i64 t, .int .i64 s, .bool e1, .bool f, .bool c] 32))
  cases b1 with
  | false =>
    go_enter Tryz.func166, Tryz.ntmps166
    go_wp2_with (go_at_call 194; refine (h1 _).mono ?_; rintro e w' ⟨rfl, rfl⟩)
    go_ret
    exact ⟨rfl, k.out⟩
  | true => cases b2 with
    | false =>
      go_enter Tryz.func166, Tryz.ntmps166
      go_wp2_with fail
      refine (h1 _).mono ?_; rintro e w' ⟨rfl, rfl⟩
      go_wp2_with fail
      refine (h2 _).mono ?_; rintro e w' ⟨rfl, rfl⟩
      go_wp2_with fail
      go_ret
      exact ⟨rfl, k.out⟩
    | true =>
      go_enter Tryz.func166, Tryz.ntmps166
      go_wp2_with fail
      refine (h1 _).mono ?_; rintro e w' ⟨rfl, rfl⟩
      go_wp2_with fail
      refine (h2 _).mono ?_; rintro e w' ⟨rfl, rfl⟩
      go_wp2_with fail
      refine (h3 _).mono ?_; rintro e w' ⟨rfl, rfl⟩
      go_wp2_with fail
      go_ret
      exact ⟨by simp, k.out⟩
end Go.Proofs.YtilkgjpgoogiiaaGreat.Snt
namespace Go.Proofs.YtilkgjpgoogiiaaGreat.Snt
open Go.RowKit SntM Cd Wd
theorem Quiet.kept {v : Value} {w w' : World} {e : Ending} (h : Quiet v w e w') : e = .returned v ∧ Kept w w' := by
  obtain ⟨a, m, rfl⟩ := h
  exact ⟨a, (Kept.refl w).drewN m⟩
structure Seen (w : World) (p g c room start i : Nat) (q : Pk) : Prop where
  ring_ : w.cell? ⟨p, 0, none⟩ = some (.slice (some ⟨g, 0, none⟩) room c)
  start_ : w.cell? ⟨p, 1, none⟩ = some (.int .i64 start)
  n_ : w.cell? ⟨g, (start + i) % room * 6, none⟩ = some (.int .i64 q.n)
  t_ : w.cell? ⟨g, (start + i) % room * 6 + 1, none⟩ = some (.int .i64 q.t)
  s_ : w.cell? ⟨g, (start + i) % room * 6 + 2, none⟩ = some (.int .i64 q.s)
  e_ : w.cell? ⟨g, (start + i) % room * 6 + 3, none⟩ = some (.bool q.e)
  f_ : w.cell? ⟨g, (start + i) % room * 6 + 4, none⟩ = some (.bool q.f)
  c_ : w.cell? ⟨g, (start + i) % room * 6 + 5, none⟩ = some (.bool q.c)
theorem each_any (p g c room start a b : Nat) (k : Nat) (pre post : Array Value) (es : List Pk) (J : Nat → World → Prop) (w : World) (eg : ∀ args w, (callFunc k args).run Tryz.prog w = .ok (.enter k args) w)
    (hr : 1 ≤ room ∧ room ≤ 256) (hc : room ≤ c) (hs : start < room) (hb : b ≤ room) (ha : a ≤ b)
    (hk : ∀ i W W', J i W → Kept W W' → J i W') (h0 : J a w)
    (hseen : ∀ i W, a ≤ i → i < b → J i W → Seen W p g c room start i (at_ es i))
    (hgap : ∀ i W, a ≤ i → i < b → J i W → real (at_ es i) = false → J (i + 1) W)
    (hone : ∀ i W, a ≤ i → i < b → J i W → real (at_ es i) = true → Calls Tryz.prog k (pre ++ #[pkV (at_ es i)] ++ post) W (Unit_ (J (i + 1)))) :
    Calls Tryz.prog 114 #[.pointer (some ⟨p, 0, none⟩), .int .i64 a, .int .i64 b, .func (.func k) pre post] w (Unit_ (J b)) := by
  have HK := Lib.hid hk
  have HS := Lib.hid hseen
  have HG := Lib.hid hgap
  have HO := Lib.hid hone
  have H0 := Lib.hid h0
  clear hk hseen hgap hone h0
  go_enter Tryz.func114, Tryz.ntmps114
  go_wp2_with fail
  go_loopw [8] (fun s8 wr => ∃ i : Nat, a ≤ i ∧ i ≤ b ∧ s8 = .int .i64 i ∧ Hid (J i wr)) (fun s8 _ => b - (intOf s8).toNat)
  case atStart => exact ⟨a, Nat.le_refl _, ha, rfl, H0.out⟩
  case round =>
    obtain ⟨i, hai, hib, rfl, hJ⟩ := hrel
    by_cases hlt : i < b
    · have hsn := HS.out i wr hai hlt hJ.out
      have hat := Lib.hid ((at_any p g c room start i wr hsn.ring_ hsn.start_ hr hc hs (by omega)).mono fun _ _ h => h.kept)
      have hiz : (i : Int) < (b : Int) := by omega
      have hw1 : IntKind.i64.wrap ((i : Int) + 1) = (i : Int) + 1 := IntWalk.i64_in _ (by omega)
      have hn := hsn.n_
      have ht := hsn.t_
      have hs' := hsn.s_
      have he := hsn.e_
      have hf := hsn.f_
      have hc' := hsn.c_
      have hG := Lib.hid (HG.out i)
      have hO := Lib.hid (HO.out i)
      clear hsn
      generalize (start + i) % room = q at *
      have hgl : g < wr.heap.size := World.block_lt_of_cell? _ _ hn
      generalize at_ es i = x at *
      have hx : Hid (pkV x = .agg #[.int .i64 x.n, .int .i64 x.t, .int .i64 x.s, .bool x.e, .bool x.f, .bool x.c]) := Lib.hid rfl
      have hig := Lib.hid (fun W => isGap_any x W)
      unfold pkV at hig
      cases hrl : real x with
      | false =>
        rw [hrl] at hig
        go_wp2_with fail
        refine hat.out.mono ?_
        rintro e w1 ⟨rfl, hk1⟩
        have hn1 := hk1.cell hn
        have ht1 := hk1.cell ht
        have hs1 := hk1.cell hs'
        have he1 := hk1.cell he
        have hf1 := hk1.cell hf
        have hc1 := hk1.cell hc'
        have hgl1 : g < w1.heap.size := Nat.lt_of_lt_of_le hgl hk1.size
        have HK1 := Lib.hid hk1
        clear hn ht hs' he hf hc' hk1
        go_wp2_with fail
        refine (hig.out _).mono ?_
        rintro e w2 ⟨rfl, hk2⟩
        go_wp2_with fail
        go_roundw
        case rel => exact ⟨i + 1, by omega, by omega, by go_num, hG.out _ hai hlt (HK.out i _ _ hJ.out ((HK1.out.alloc _).trans hk2)) hrl⟩
        case measure => simp [intOf]; omega
      | true =>
        rw [hrl] at hig
        go_wp2_with fail
        refine hat.out.mono ?_
        rintro e w1 ⟨rfl, hk1⟩
        have hn1 := hk1.cell hn
        have ht1 := hk1.cell ht
        have hs1 := hk1.cell hs'
        have he1 := hk1.cell he
        have hf1 := hk1.cell hf
        have hc1 := hk1.cell hc'
        have hgl1 : g < w1.heap.size := Nat.lt_of_lt_of_le hgl hk1.size
        have HK1 := Lib.hid hk1
        clear hn ht hs' he hf hc' hk1
        go_wp2_with fail
        refine (hig.out _).mono ?_
        rintro e w2 ⟨rfl, hk2⟩
        have hB := (Blk.new w1 32 #[.int .i64 x.n, .int .i64 x.t, .int .i64 x.s, .bool x.e, .bool x.f, .bool x.c]).kept hk2
        have b0 := hB.cell 0
        have b1 := hB.cell 1
        have b2 := hB.cell 2
        have b3 := hB.cell 3
        have b4 := hB.cell 4
        have b5 := hB.cell 5
        have hO2 := Lib.hid (hO.out w2 hai hlt (HK.out i _ _ hJ.out ((HK1.out.alloc _).trans hk2)) hrl)
        clear hB hn1 ht1 hs1 he1 hf1 hc1
        go_wp2_with fail
        refine hO2.out.mono ?_
        rintro e w3 ⟨rfl, hJ3⟩
        have HJ3 := Lib.hid hJ3
        clear hJ3
        go_wp2_with fail
        go_roundw
        case rel => exact ⟨i + 1, by omega, by omega, by go_num, HJ3.out⟩
        case measure => simp [intOf]; omega
    · obtain rfl : i = b := by omega
      go_wp2
      go_end0
      exact ⟨rfl, hJ.out⟩
end Go.Proofs.YtilkgjpgoogiiaaGreat.Snt
namespace Go.Proofs.YtilkgjpgoogiiaaGreat.Snt
open Go.RowKit SntM Cd Wd
structure LogAt (w : World) (p g c room : Nat) (last : Int) (es : List Pk) (start : Nat) (X : List Pk) : Prop where
  blk : LogB w p g c room start es.length last ((reals es).length : Nat) (fly (reals es)) (eli (reals es))
  row : PRow w (some ⟨g, 0, none⟩) room c X
  ring : Ring room start X es
  st : start < room
  ok : Ok room last es
namespace LogAt
variable {w w' : World} {p g c room start : Nat} {last : Int} {es X : List Pk}
theorem kept (h : LogAt w p g c room last es start X) (k : Kept w w') : LogAt w' p g c room last es start X := ⟨h.blk.kept k, h.row.kept k, h.ring, h.st, h.ok⟩
theorem but {F : Nat → Prop} (h : LogAt w p g c room last es start X) (k : But F w w') (h1 : ¬ F p) (h2 : ¬ F g) : LogAt w' p g c room last es start X :=
  ⟨h.blk.but k h1, h.row.but k (fun i e => by injection e with e; exact e ▸ h2), h.ring, h.st, h.ok⟩
theorem plt (h : LogAt w p g c room last es start X) : p < w.heap.size := h.blk.lt
theorem glt (h : LogAt w p g c room last es start X) : g < w.heap.size := h.row.lt g rfl
theorem ne (h : LogAt w p g c room last es start X) : p ≠ g := by
  rcases h.row.form with ⟨e, _⟩ | ⟨g', cur, e, hb, _⟩
  · cases e
  · obtain rfl : g = g' := by injection e with e; injection e
    exact h.blk.ne_ hb (by decide)
theorem cap (h : LogAt w p g c room last es start X) : room ≤ c ∧ c ≤ maxLen := h.row.cap
theorem ring_ (h : LogAt w p g c room last es start X) : w.cell? ⟨p, 0, none⟩ = some (.slice (some ⟨g, 0, none⟩) room c) := h.blk.cell 0
theorem start_ (h : LogAt w p g c room last es start X) : w.cell? ⟨p, 1, none⟩ = some (.int .i64 start) := h.blk.cell 1
theorem used_ (h : LogAt w p g c room last es start X) : w.cell? ⟨p, 2, none⟩ = some (.int .i64 es.length) := h.blk.cell 2
theorem last_ (h : LogAt w p g c room last es start X) : w.cell? ⟨p, 3, none⟩ = some (.int .i64 last) := h.blk.cell 3
theorem pk_ (h : LogAt w p g c room last es start X) : w.cell? ⟨p, 4, none⟩ = some (.int .i64 (reals es).length) := h.blk.cell 4
theorem fl_ (h : LogAt w p g c room last es start X) : w.cell? ⟨p, 5, none⟩ = some (.int .i64 (fly (reals es))) := h.blk.cell 5
theorem el_ (h : LogAt w p g c room last es start X) : w.cell? ⟨p, 6, none⟩ = some (.int .i64 (eli (reals es))) := h.blk.cell 6
theorem len (h : LogAt w p g c room last es start X) : es.length ≤ room := h.ok.len
theorem seen (h : LogAt w p g c room last es start X) {i : Nat} (hi : i < es.length) : Seen w p g c room start i (at_ es i) := by
  have hl := h.len
  have h1 := prow_cells h.row (k := (start + i) % room) (wrap_lt h.st)
  rw [h.ring i hi] at h1
  exact ⟨h.ring_, h.start_, h1.1, h1.2.1, h1.2.2.1, h1.2.2.2.1, h1.2.2.2.2.1, h1.2.2.2.2.2⟩
theorem absent_ (h : LogAt w p g c room last es start X) : Calls Tryz.prog 113 #[.pointer (some ⟨p, 0, none⟩)] w fun e w' => e = .returned (.bool false) ∧ w = w' := absent_some p g c room w h.ring_ h.ok.room1
theorem at__ (h : LogAt w p g c room last es start X) {i : Nat} (hi : i < room) : Calls Tryz.prog 127 #[.pointer (some ⟨p, 0, none⟩), .int .i64 i] w (Quiet (.pointer (some ⟨g, ((start + i) % room) * 6, none⟩)) w) := at_any p g c room start i w h.ring_ h.start_ h.ok.room1 h.cap.1 h.st hi
theorem atq (h : LogAt w p g c room last es start X) {i : Nat} (hi : i < room) (n : Nat) : Calls Tryz.prog 127 #[.pointer (some ⟨p, 0, none⟩), .int .i64 i] (w.drewN n) fun e w'' => e = .returned (.pointer (some ⟨g, ((start + i) % room) * 6, none⟩)) ∧ ∃ m, w'' = w.drewN m :=
  ((h.kept ((Kept.refl w).drewN n)).at__ hi).mono fun _ _ ⟨a, m, b⟩ => ⟨a, n + m, by rw [b, World.drewN_drewN]⟩
end LogAt
theorem search_any (g : Nat) (cb : Array Value) (n k : Nat) (p : Nat → Bool) (w : World) (eg : ∀ args w, (callFunc g args).run Tryz.prog w = .ok (.enter g args) w) (hsz : n < 4611686018427387904)
    (hf : ∀ W, Kept w W → ∀ i : Nat, i < n → Calls Tryz.prog g (#[.int .i64 i] ++ cb) W (GBool (p i) W)) (hk : k ≤ n) (h1 : ∀ i, i < k → p i = false) (h2 : ∀ i, k ≤ i → i < n → p i = true) :
    Calls Tryz.prog 171 #[.int .i64 n, .func (.func g) #[] cb] w (GInt (k : Nat) w) := by
  have HF := Lib.hid hf
  have H1 := Lib.hid h1
  have H2 := Lib.hid h2
  clear hf h1 h2
  go_enter Tryz.func171, Tryz.ntmps171
  go_wp2
  go_loopg [5, 6] n (fun kx s5 s6 wr => ∃ lo hi : Nat, s5 = .int .i64 lo ∧ s6 = .int .i64 hi ∧ lo ≤ k ∧ k ≤ hi ∧ hi ≤ n ∧ hi - lo ≤ kx ∧ Kept w wr)
  case atStart => exact ⟨0, n, rfl, rfl, Nat.zero_le _, hk, Nat.le_refl _, by omega, Kept.refl w⟩
  case round =>
    obtain ⟨lo, hi, rfl, rfl, hlk, hkh, hin, hg, hkw⟩ := hrel
    by_cases hlt : lo < hi
    · have hc := HF.out _ hkw ((lo + hi) / 2) (by omega)
      rw [show (((lo + hi) / 2 : Nat) : Int) = ((lo : Int) + (hi : Int)) / 2 by omega] at hc
      by_cases hp : (lo + hi) / 2 < k
      · rw [H1.out _ hp] at hc
        go_wp2_with (go_at_fn g; refine hc.mono ?_; rintro e w' ⟨rfl, hkw'⟩)
        go_roundg (hi - ((lo + hi) / 2 + 1))
        case measure => omega
        case rel => exact ⟨(lo + hi) / 2 + 1, hi, by rw [show ((lo : Int) + (hi : Int)) / 2 + 1 = (((lo + hi) / 2 + 1 : Nat) : Int) by omega], rfl, by omega, hkh, hin, Nat.le_refl _, hkw.trans hkw'⟩
      · rw [H2.out _ (by omega) (by omega)] at hc
        go_wp2_with (go_at_fn g; refine hc.mono ?_; rintro e w' ⟨rfl, hkw'⟩)
        go_roundg ((lo + hi) / 2 - lo)
        case measure => omega
        case rel => exact ⟨lo, (lo + hi) / 2, rfl, by rw [show ((lo : Int) + (hi : Int)) / 2 = (((lo + hi) / 2 : Nat) : Int) by omega], hlk, by omega, by omega, Nat.le_refl _, hkw.trans hkw'⟩
    · obtain rfl : hi = lo := by omega
      obtain rfl : k = hi := by omega
      go_wp2
      go_ret
      exact ⟨rfl, hkw⟩
def Tells (g x : Nat) (P : Int → Bool) (w : World) : Prop := ∀ W, Kept w W → ∀ n : Int, Calls Tryz.prog g #[.int .i64 n, .pointer (some ⟨x, 0, none⟩)] W (GBool (P n) W)
theorem tells_lo (x : Nat) (b : Int) (w : World) (hx : w.cell? ⟨x, 0, none⟩ = some (.int .i64 b)) : Tells 136 x (fun n => decide (b ≤ n)) w := by
  rintro W hk n
  have hc := hk.cell hx
  have hxl : x < W.heap.size := World.block_lt_of_cell? _ _ hc
  clear hx hk
  go_enter Tryz.func136, Tryz.ntmps136
  go_wp2
  go_ret
  exact ⟨rfl, Kept.refl _⟩
theorem tells_hi (x : Nat) (b : Int) (w : World) (hx : w.cell? ⟨x, 0, none⟩ = some (.int .i64 b)) : Tells 137 x (fun n => decide (b < n)) w := by
  rintro W hk n
  have hc := hk.cell hx
  have hxl : x < W.heap.size := World.block_lt_of_cell? _ _ hc
  clear hx hk
  go_enter Tryz.func137, Tryz.ntmps137
  go_wp2
  go_ret
  exact ⟨rfl, Kept.refl _⟩
theorem tells_find (x : Nat) (b : Int) (w : World) (hx : w.cell? ⟨x, 0, none⟩ = some (.int .i64 b)) : Tells 178 x (fun n => decide (b ≤ n)) w := by
  rintro W hk n
  have hc := hk.cell hx
  have hxl : x < W.heap.size := World.block_lt_of_cell? _ _ hc
  clear hx hk
  go_enter Tryz.func178, Tryz.ntmps178
  go_wp2
  go_ret
  exact ⟨rfl, Kept.refl _⟩
theorem first1_any (k x bf bs p g c room start i : Nat) (P : Int → Bool) (last : Int) (es X : List Pk) (w : World) (eg : ∀ args w, (callFunc k args).run Tryz.prog w = .ok (.enter k args) w)
    (hf : w.cell? ⟨bf, 0, none⟩ = some (.func (.func k) #[] #[.pointer (some ⟨x, 0, none⟩)])) (hs : w.cell? ⟨bs, 0, none⟩ = some (.pointer (some ⟨p, 0, none⟩)))
    (h : LogAt w p g c room last es start X) (hi : i < es.length) (ht : Tells k x P w) :
    Calls Tryz.prog 177 #[.int .i64 i, .pointer (some ⟨bf, 0, none⟩), .pointer (some ⟨bs, 0, none⟩)] w (GBool (P (at_ es i).n) w) := by
  have hsn := (h.seen hi).n_
  have hlen := h.len
  have ha := Lib.hid (fun W hk => ((h.kept (w' := W) hk).at__ (i := i) (by omega)).mono fun _ _ h => Quiet.kept h)
  have ht' := Lib.hid (fun W hk => ht W hk (at_ es i).n)
  have hbf : bf < w.heap.size := World.block_lt_of_cell? _ _ hf
  have hbs : bs < w.heap.size := World.block_lt_of_cell? _ _ hs
  clear h ht
  generalize (at_ es i).n = m at *
  generalize (start + i) % room * 6 = q at *
  go_enter Tryz.func177, Tryz.ntmps177
  go_wp2
  go_region_held3 (fun w' => w'.cell? ⟨bf, 0, none⟩ = some (.func (.func k) #[] #[.pointer (some ⟨x, 0, none⟩)]) ∧ w'.cell? ⟨bs, 0, none⟩ = some (.pointer (some ⟨p, 0, none⟩)) ∧ w'.cell? ⟨g, q, none⟩ = some (.int .i64 m))
    (first | exact ⟨hf, hs, hsn⟩ | exact ⟨hk1.cell hf, hk1.cell hs, hk1.cell hsn⟩ | exact ⟨hk2.cell (hk1.cell hf), hk2.cell (hk1.cell hs), hk2.cell (hk1.cell hsn)⟩)
    ((first
      | (go_at_call 127; refine (ha.out _ ((Kept.refl w).drew)).mono ?_; rintro e w1 ⟨rfl, hk1⟩)
      | (go_at_fn k; refine (ht'.out _ (((Kept.refl w).drew).trans hk1)).mono ?_; rintro e w2 ⟨rfl, hk2⟩)))
  all_goals
    go_wp2
    go_ret
    exact ⟨rfl, (((Kept.refl w).drew).trans hk1).trans hk2⟩
theorem first_any (k x p g c room start : Nat) (P : Int → Bool) (last : Int) (es X : List Pk) (w : World) (eg : ∀ args w, (callFunc k args).run Tryz.prog w = .ok (.enter k args) w)
    (h : LogAt w p g c room last es start X) (ht : Tells k x P w) (hm : ∀ i, es.findIdx (fun q => P q.n) ≤ i → i < es.length → P (at_ es i).n = true) :
    Calls Tryz.prog 135 #[.pointer (some ⟨p, 0, none⟩), .func (.func k) #[] #[.pointer (some ⟨x, 0, none⟩)]] w (GInt (es.findIdx (fun q => P q.n) : Nat) w) := by
  have hplt := h.plt
  obtain ⟨W, hW⟩ : ∃ W, (w.alloc (.cells #[.pointer (some ⟨p, 0, none⟩)] 75)).alloc (.cells #[.func (.func k) #[] #[.pointer (some ⟨x, 0, none⟩)]] 131) = W := ⟨_, rfl⟩
  have hk : Kept w W := by rw [← hW]; exact ((Kept.refl w).alloc _).alloc _
  have c1 : W.cell? ⟨w.heap.size, 0, none⟩ = some (.pointer (some ⟨p, 0, none⟩)) := by rw [← hW]; exact ((Kept.refl _).alloc _).cell (cell_box w _ _)
  have c2 : W.cell? ⟨w.heap.size + 1, 0, none⟩ = some (.func (.func k) #[] #[.pointer (some ⟨x, 0, none⟩)]) := by rw [← hW]; exact cell_box2 w _ _ _
  have hlen : es.length < 4611686018427387904 := by have := h.len; have := h.ok.room1; omega
  have hu := h.used_
  have hs := search_any 177 #[.pointer (some ⟨w.heap.size + 1, 0, none⟩), .pointer (some ⟨w.heap.size, 0, none⟩)] es.length (es.findIdx (fun q => P q.n)) (fun i => P (at_ es i).n) W
    (enters_of Tryz.func177 (by kernel_rfl) rfl) hlen
    (fun W' hk' i hi => first1_any k x _ _ p g c room start i P last es X W' eg (hk'.cell c2) (hk'.cell c1) ((h.kept hk).kept hk') hi (fun W2 hk2 r => ht W2 ((hk.trans hk').trans hk2) r)) List.findIdx_le_length
    (fun i hi => by
      have h1 := List.not_of_lt_findIdx hi
      have h2 : i < es.length := Nat.lt_of_lt_of_le hi List.findIdx_le_length
      rw [at_of h2]; simpa using h1) hm
  have HW := Lib.hid hW
  have HK := Lib.hid hk
  clear hW hk h ht hm c2
  generalize es.findIdx (fun q => P q.n) = n at *
  generalize es.length = m at *
  go_enter Tryz.func135, Tryz.ntmps135
  go_wp2_with fail
  rw [HW.out]
  refine hs.mono ?_
  rintro e w' ⟨rfl, hk'⟩
  go_wp2_with fail
  go_ret
  exact ⟨rfl, HK.out.trans hk'⟩
def findI (es : List Pk) (n : Int) : Int := if foundB es n = true then (place es n : Nat) else -1
theorem findI_eq (es : List Pk) (n : Int) : findI es n = if foundB es n = true then ((place es n : Nat) : Int) else -1 := rfl
theorem find_any (p g c room start : Nat) (last : Int) (es X : List Pk) (n : Int) (w : World) (h : LogAt w p g c room last es start X) :
    Calls Tryz.prog 139 #[.pointer (some ⟨p, 0, none⟩), .int .i64 n] w (GInt (findI es n) w) := by
  have hfi := Lib.hid (findI_eq es n)
  generalize findI es n = F at *
  have hplt := h.plt
  obtain ⟨W, hW⟩ : ∃ W, w.alloc (.cells #[.int .i64 n] 3) = W := ⟨_, rfl⟩
  have hk : Kept w W := by rw [← hW]; exact (Kept.refl w).alloc _
  have c1 : W.cell? ⟨w.heap.size, 0, none⟩ = some (.int .i64 n) := by rw [← hW]; exact cell_box w _ _
  have hxl : w.heap.size < W.heap.size := World.block_lt_of_cell? _ _ c1
  have ha := (h.kept hk).absent_
  have hf : Calls _ _ _ _ (GInt (place es n : Nat) W) := first_any 178 w.heap.size p g c room start (fun m => decide (n ≤ m)) last es X W (enters_of Tryz.func178 (by kernel_rfl) rfl) (h.kept hk) (tells_find _ n W c1)
    (fun i h1 h2 => decide_eq_true (place_ge h.ok.rise h1 h2))
  have hle := place_le es n
  have hroom := h.ok.room1
  have hlr := h.len
  have HW := Lib.hid hW
  have HK := Lib.hid hk
  have H := Lib.hid (h.kept hk)
  clear hW hk h
  go_enter Tryz.func139, Tryz.ntmps139
  go_wp2_with fail
  rw [HW.out]
  refine ha.mono ?_
  rintro e w' ⟨rfl, rfl⟩
  go_wp2_with fail
  refine hf.mono ?_
  rintro e w1 ⟨rfl, hk1⟩
  have HL := Lib.hid (H.out.kept hk1)
  have HK1 : Hid (Kept w w1) := HK.out.trans hk1
  have hx1 := hk1.cell c1
  have hxl1 : w.heap.size < w1.heap.size := Nat.lt_of_lt_of_le hxl hk1.size
  have hu := HL.out.used_
  have hpl1 := HL.out.plt
  clear ha hf HW HK H hk1 c1 hxl
  by_cases hlt : place es n < es.length
  · have hsn := HL.out.seen hlt
    have hat := Lib.hid (fun W hk => ((HL.out.kept (w' := W) hk).at__ (i := place es n) (by omega)).mono fun _ _ h => Quiet.kept h)
    have e1 := Lib.hid (show foundB es n = (decide ((at_ es (place es n)).n = n) && real (at_ es (place es n))) by unfold foundB; simp [hlt])
    have e0 : (((place es n : Nat) : Int) == ((es.length : Nat) : Int)) = false := by simp only [beq_eq_false_iff_ne]; omega
    have hatq := Lib.hid (fun k => HL.out.atq (i := place es n) (by omega) k)
    have hkA := (Kept.refl w1).drew
    have hig := Lib.hid (fun W => isGap_any (at_ es (place es n)) W)
    unfold pkV at hig
    have hgl : g < w1.heap.size := HL.out.glt
    obtain ⟨_, _, h0, ht, hs, he, hf, hc⟩ := hsn
    clear HL
    generalize at_ es (place es n) = x at *
    generalize (start + place es n) % room * 6 = q at *
    by_cases hn : x.n = n
    · have e2 : Hid ((n != n) = false) := by show _ = _; simp
      have e3 : Hid (F = if real x = true then ((place es n : Nat) : Int) else -1) := by show _ = _; rw [hfi.out, e1.out]; simp [hn]
      clear e1 hfi
      rw [hn] at h0 hig
      cases hr : real x with
      | true =>
        rw [hr] at hig e3
        have e4 : Hid (F = ((place es n : Nat) : Int)) := by show _ = _; rw [e3.out]; rfl
        clear e3
        generalize place es n = a at *
        generalize es.length = m at *
        go_wp2_with fail
        go_region_held3 (fun w' => Kept w1 w' ∧ w'.cell? ⟨w.heap.size, 0, none⟩ = some (.int .i64 n) ∧ w'.cell? ⟨p, 2, none⟩ = some (.int .i64 m) ∧ w'.cell? ⟨g, q, none⟩ = some (.int .i64 n) ∧ w'.cell? ⟨g, q + 1, none⟩ = some (.int .i64 x.t) ∧ w'.cell? ⟨g, q + 2, none⟩ = some (.int .i64 x.s) ∧ w'.cell? ⟨g, q + 3, none⟩ = some (.bool x.e) ∧ w'.cell? ⟨g, q + 4, none⟩ = some (.bool x.f) ∧ w'.cell? ⟨g, q + 5, none⟩ = some (.bool x.c))
          (exact ⟨hkA, hkA.cell hx1, hkA.cell hu, hkA.cell h0, hkA.cell ht, hkA.cell hs, hkA.cell he, hkA.cell hf, hkA.cell hc⟩)
          ((first
            | (go_at_call 127; refine (hat.out _ hkA).mono ?_; rintro e w2 ⟨rfl, hk2⟩; replace hkA := hkA.trans hk2)
            | (go_at_call 154; refine (hig.out _).mono ?_; rintro e w2 ⟨rfl, hk2⟩; replace hkA := hkA.trans hk2)))
        all_goals
          go_wp2_with fail
          go_ret
          exact ⟨ret_int e4.out.symm, HK1.out.trans hkA⟩
      | false =>
        rw [hr] at hig e3
        have e4 : Hid (F = -1) := by show _ = _; rw [e3.out]; rfl
        clear e3
        generalize place es n = a at *
        generalize es.length = m at *
        go_wp2_with fail
        go_region_held3 (fun w' => Kept w1 w' ∧ w'.cell? ⟨w.heap.size, 0, none⟩ = some (.int .i64 n) ∧ w'.cell? ⟨p, 2, none⟩ = some (.int .i64 m) ∧ w'.cell? ⟨g, q, none⟩ = some (.int .i64 n) ∧ w'.cell? ⟨g, q + 1, none⟩ = some (.int .i64 x.t) ∧ w'.cell? ⟨g, q + 2, none⟩ = some (.int .i64 x.s) ∧ w'.cell? ⟨g, q + 3, none⟩ = some (.bool x.e) ∧ w'.cell? ⟨g, q + 4, none⟩ = some (.bool x.f) ∧ w'.cell? ⟨g, q + 5, none⟩ = some (.bool x.c))
          (exact ⟨hkA, hkA.cell hx1, hkA.cell hu, hkA.cell h0, hkA.cell ht, hkA.cell hs, hkA.cell he, hkA.cell hf, hkA.cell hc⟩)
          ((first
            | (go_at_call 127; refine (hat.out _ hkA).mono ?_; rintro e w2 ⟨rfl, hk2⟩; replace hkA := hkA.trans hk2)
            | (go_at_call 154; refine (hig.out _).mono ?_; rintro e w2 ⟨rfl, hk2⟩; replace hkA := hkA.trans hk2)))
        all_goals
          go_wp2_with fail
          go_ret
          exact ⟨ret_int e4.out.symm, HK1.out.trans hkA⟩
    · have e2 : (x.n != n) = true := by simp [hn]
      have e2' : (x.n == n) = false := by simp [hn]
      have e4 : Hid (F = -1) := by show _ = _; rw [hfi.out, e1.out]; simp [hn]
      clear e1 hfi
      generalize place es n = a at *
      generalize es.length = m at *
      go_wp2_with fail
      go_quiet ((go_at_call 127; exact hatq.out _))
      go_wp2
      go_ret
      exact ⟨ret_int e4.out.symm, HK1.out.trans ((Kept.refl _).drewN _)⟩
  · have e4 : Hid (F = -1) := by show _ = _; rw [hfi.out]; unfold foundB; simp [hlt]
    have e0 : place es n = es.length := by omega
    clear HL hfi
    generalize place es n = a at *
    generalize es.length = m at *
    subst e0
    go_wp2_with fail
    go_quiet (fail)
    go_wp2
    go_ret
    exact ⟨ret_int e4.out.symm, HK1.out.trans ((Kept.refl _).drewN _)⟩
end Go.Proofs.YtilkgjpgoogiiaaGreat.Snt
