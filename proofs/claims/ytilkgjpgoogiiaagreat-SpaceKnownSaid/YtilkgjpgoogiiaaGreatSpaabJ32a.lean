/-
  Plain mathematics of a packet number space: its log, what is known, what is remembered; what calls make of it. Nothing here speaks of a program.
-/
import Derived.Test.YtilkgjpgoogiiaaGreatFrmabJ24a
import Derived.Test.YtilkgjpgoogiiaaGreatLosabJ14a
import Derived.Test.YtilkgjpgoogiiaaGreatWrdabJ50a
import Derived.Test.YtilkgjpgoogiiaaGreatPerabJ46a
set_option maxRecDepth 100000
set_option maxHeartbeats 16000000
set_option linter.unusedVariables false
set_option linter.unusedSimpArgs false
namespace Go.Proofs.YtilkgjpgoogiiaaGreat.SpaM
open Cd SntM LosM
open SpnM (R Rises mem num add addErr addTo cut cutTo has)
open FrmM (Ack Valid check falls)
open RttM (Rt chk)
structure Sp where
  room : Nat
  last : Int
  l : List Pk
  kn : List R
  re : List R
  gr : Int
  lo : Int
  ti : Int
def new (room : Nat) : Sp := ⟨room, -1, [], [], [], -1, -1, -1⟩
def knownB (kn : List R) (r : R) : Bool := kn.any fun s => decide (s.1 ≤ r.1) && decide (r.2 ≤ s.2)
def inB (rs : List R) (n : Int) : Bool := rs.any fun r => decide (r.1 ≤ n) && decide (n ≤ r.2)
def fst_ (rs : List R) : R := match rs with | [] => (0, 0) | r :: _ => r
def sentE (X : Sp) (p : Pk) : Int := if putErr X.room X.last X.l p = 0 then addErr 256 X.kn p.n p.n else putErr X.room X.last X.l p
def sent (X : Sp) (p : Pk) : Sp := if sentE X p = 0 then { X with last := p.n, l := X.l ++ [p], kn := add X.kn p.n p.n, ti := if (p.f && p.e) = true then p.t else X.ti } else X
def ackE (X : Sp) (a : Ack) : Int := if check a = 0 then (if (a.ranges.all (knownB X.kn)) = true then 0 else 170) else 2
def forget (X : Sp) : List R := match X.l with | [] => [] | p :: _ => cutTo X.re p.n
def remember (re : List R) (rs : List R) : List R := rs.foldl (fun s r => addTo 256 s r.1 r.2) re
def acked (X : Sp) (rs : List R) : List Pk := X.l.filter fun p => inB rs p.n
def left (X : Sp) (rs : List R) : List Pk := X.l.filter fun p => !inB rs p.n
def ack (X : Sp) (a : Ack) : Sp := if ackE X a = 0 then { X with re := remember (forget X) a.ranges, gr := max X.gr (fst_ a.ranges).2, l := left X a.ranges } else X
def ackL (X : Sp) (a : Ack) : List Pk := if ackE X a = 0 then acked X a.ranges else []
def loseE (X : Sp) (now : Int) (r : Rt) : Int := findE X.l X.gr now r
def lose (X : Sp) (now : Int) (r : Rt) : Sp := if loseE X now r = 0 then { X with l := restL X.gr now (wait r) X.l, lo := atF X.gr now (wait r) X.l } else X
def loseL (X : Sp) (now : Int) (r : Rt) : List Pk := fLost X.l X.gr now r
def disc (X : Sp) : Sp := { X with l := [], lo := -1, ti := -1 }
structure OkS (X : Sp) : Prop where
  log : SntM.Good X.room X.last X.l
  kn : Rises X.kn
  kl : X.kn.length ≤ 256
  re : Rises X.re
  rl : X.re.length ≤ 256
  low : ∀ p ∈ X.l, mem X.kn p.n
  top : ∀ n, mem X.kn n → n ≤ X.last
  gr : X.gr = -1 ∨ mem X.kn X.gr
  las : X.last = -1 ∨ mem X.kn X.last
  lo : isT X.lo
  ti : isT X.ti
theorem new_ok {room : Nat} (h : 1 ≤ room ∧ room ≤ 256) : OkS (new room) :=
  ⟨⟨List.Pairwise.nil, (fun p h => by cases h), Nat.zero_le _, h, by show (-1 : Int) ≤ -1 ∧ (-1 : Int) ≤ M; unfold M; omega⟩, SpnM.good_nil, Nat.zero_le _, SpnM.good_nil, Nat.zero_le _, (fun p h => by cases h), (fun n h => absurd h SpnM.mem_nil), .inl rfl, .inl rfl, .inl rfl, .inl rfl⟩
theorem valid_num {p : Pk} (h : valid p) : num p.n := ⟨h.1, h.2.1⟩
theorem putErr_of {room : Nat} {last : Int} {l : List Pk} {p : Pk} (h : putErr room last l p = 0) : valid p ∧ last < p.n ∧ l.length ≠ room := by
  unfold putErr at h
  by_cases h1 : valid p
  · rw [if_neg (fun e => e h1)] at h
    by_cases h2 : p.n ≤ last
    · rw [if_pos h2] at h; cases h
    · rw [if_neg h2] at h
      by_cases h3 : l.length = room
      · rw [if_pos h3] at h; cases h
      · exact ⟨h1, by omega, h3⟩
  · rw [if_pos h1] at h; cases h
theorem sentE_of {X : Sp} {p : Pk} (h : sentE X p = 0) : (valid p ∧ X.last < p.n ∧ X.l.length ≠ X.room) ∧ ((add X.kn p.n p.n).length : Int) ≤ 256 := by
  unfold sentE at h
  by_cases h1 : putErr X.room X.last X.l p = 0
  · rw [if_pos h1] at h
    exact ⟨putErr_of h1, (SpnM.addErr_zero h).2.2.2⟩
  · rw [if_neg h1] at h; exact absurd h h1
theorem sent_yes {X : Sp} {p : Pk} (h : sentE X p = 0) : sent X p = { X with last := p.n, l := X.l ++ [p], kn := add X.kn p.n p.n, ti := if (p.f && p.e) = true then p.t else X.ti } := if_pos h
theorem sent_no {X : Sp} {p : Pk} (h : sentE X p ≠ 0) : sent X p = X := if_neg h
theorem sent_ok {X : Sp} (o : OkS X) (p : Pk) : OkS (sent X p) := by
  by_cases h : sentE X p = 0
  · obtain ⟨⟨hv, hn, hl⟩, hk⟩ := sentE_of h
    have hm := fun n => SpnM.mem_add o.kn (Int.le_refl p.n) n
    have g := o.log.put p
    have e : putErr X.room X.last X.l p = 0 := by
      unfold putErr; rw [if_neg (fun e => e hv), if_neg (by omega), if_neg hl]
    unfold putTop putL at g
    rw [if_pos e, if_pos e] at g
    rw [sent_yes h]
    refine ⟨g, SpnM.add_good o.kn hv.1 (Int.le_refl _) hv.2.1, by show (add X.kn p.n p.n).length ≤ 256; omega, o.re, o.rl, fun q hq => ?_, fun n hn' => ?_, ?_, .inr ((hm p.n).2 (.inr ⟨Int.le_refl _, Int.le_refl _⟩)), o.lo, ?_⟩
    · rcases List.mem_append.1 hq with h1 | h1
      · exact (hm q.n).2 (.inl (o.low q h1))
      · rw [List.mem_singleton.1 h1]; exact (hm p.n).2 (.inr ⟨Int.le_refl _, Int.le_refl _⟩)
    · rcases (hm n).1 hn' with h1 | h1
      · have := o.top n h1; show n ≤ p.n; omega
      · exact h1.2
    · rcases o.gr with h1 | h1
      · exact .inl h1
      · exact .inr ((hm _).2 (.inl h1))
    · show isT (if (p.f && p.e) = true then p.t else X.ti)
      split
      · have h1 := hv.2.2.1; have h2 := hv.2.2.2.1; unfold M at h2; exact .inr ⟨h1, h2⟩
      · exact o.ti
  · rw [sent_no h]; exact o
theorem forget_rises {X : Sp} (o : OkS X) : Rises (forget X) ∧ (forget X).length ≤ 256 := by
  unfold forget
  split
  · exact ⟨SpnM.good_nil, Nat.zero_le _⟩
  · refine ⟨SpnM.cutTo_good o.re _, ?_⟩
    have := SpnM.cutTo_room (room := 256) (l := X.re) (by have := o.rl; omega)
    rename_i p _ _
    have := this p.n
    omega
theorem remember_rises (rs : List R) : ∀ {re : List R}, Rises re → re.length ≤ 256 → Rises (remember re rs) ∧ (remember re rs).length ≤ 256 := by
  induction rs with
  | nil => exact fun h k => ⟨h, k⟩
  | cons r rs ih =>
    intro re h k
    refine ih (SpnM.addTo_good h _ _) ?_
    have := SpnM.addTo_room (room := 256) (l := re) (by omega) r.1 r.2
    show (addTo 256 re r.1 r.2).length ≤ 256
    omega
theorem remember_snoc (re rs : List R) (r : R) : remember re (rs ++ [r]) = addTo 256 (remember re rs) r.1 r.2 := by unfold remember; rw [List.foldl_append]; rfl
theorem knownB_mem {kn : List R} {r : R} (h : knownB kn r = true) (hr : r.1 ≤ r.2) : ∀ n, r.1 ≤ n → n ≤ r.2 → mem kn n := fun n h1 h2 => by
  obtain ⟨s, hs, h3⟩ := List.any_eq_true.1 h
  rw [Bool.and_eq_true, decide_eq_true_iff, decide_eq_true_iff] at h3
  exact ⟨s, hs, by omega, by omega⟩
theorem knownB_of {kn : List R} (g : Rises kn) {r : R} (hr : r.1 ≤ r.2) (h : ∀ n, r.1 ≤ n → n ≤ r.2 → mem kn n) : knownB kn r = true := by
  obtain ⟨s, hs, h1, h2⟩ := h r.1 (Int.le_refl _) hr
  refine List.any_eq_true.2 ⟨s, hs, ?_⟩
  rw [Bool.and_eq_true, decide_eq_true_iff, decide_eq_true_iff]
  refine ⟨h1, ?_⟩
  by_cases h3 : r.2 ≤ s.2
  · exact h3
  · exfalso
    obtain ⟨t, ht, h4, h5⟩ := h (s.2 + 1) (by omega) (by omega)
    obtain ⟨i, hi, rfl⟩ := SpnM.mem_at hs
    obtain ⟨j, hj, rfl⟩ := SpnM.mem_at ht
    rcases Nat.lt_trichotomy i j with h6 | h6 | h6
    · have := SpnM.at_lt g h6 hj; omega
    · subst h6; omega
    · have := SpnM.at_lt g h6 hi; have := (SpnM.at_bd g hi).2.1; omega
theorem ackE_of {X : Sp} {a : Ack} (h : ackE X a = 0) : Valid a ∧ ∀ r ∈ a.ranges, knownB X.kn r = true := by
  unfold ackE at h
  by_cases h1 : check a = 0
  · rw [if_pos h1] at h
    by_cases h2 : (a.ranges.all (knownB X.kn)) = true
    · exact ⟨FrmM.check_zero h1, List.all_eq_true.1 h2⟩
    · rw [if_neg h2] at h; cases h
  · rw [if_neg h1] at h; cases h
theorem valid_fits {a : Ack} (h : Valid a) {r : R} (hr : r ∈ a.ranges) : r.1 ≤ r.2 := by
  have hf := h.2.1
  have key : ∀ (l : List R) (top : Int), falls top l → ∀ r ∈ l, r.1 ≤ r.2 := by
    intro l
    induction l with
    | nil => intro _ _ r h; cases h
    | cons x t ih =>
      intro top hl r hr
      obtain ⟨h1, h2⟩ := (FrmM.falls_cons top x t).1 hl
      rcases List.mem_cons.1 hr with rfl | hr
      · exact h1.2.1
      · exact ih _ h2 r hr
  exact key _ _ hf r hr
theorem fst_mem {rs : List R} (h : 1 ≤ rs.length) : fst_ rs ∈ rs := by
  cases rs with
  | nil => simp at h
  | cons r t => exact List.mem_cons_self
theorem good_filter {room : Nat} {last : Int} {l : List Pk} (h : SntM.Good room last l) (f : Pk → Bool) : SntM.Good room last (l.filter f) :=
  ⟨h.rise.filter _, fun p hp => h.good p (List.mem_filter.1 hp).1, Nat.le_trans (List.length_filter_le _ _) h.len, h.room1, h.last1⟩
theorem ack_yes {X : Sp} {a : Ack} (h : ackE X a = 0) : ack X a = { X with re := remember (forget X) a.ranges, gr := max X.gr (fst_ a.ranges).2, l := left X a.ranges } := if_pos h
theorem ack_no {X : Sp} {a : Ack} (h : ackE X a ≠ 0) : ack X a = X ∧ ackL X a = [] := ⟨if_neg h, if_neg h⟩
theorem ack_ok {X : Sp} (o : OkS X) (a : Ack) : OkS (ack X a) := by
  by_cases h : ackE X a = 0
  · obtain ⟨hv, hk⟩ := ackE_of h
    have hf := forget_rises o
    have hr := remember_rises a.ranges hf.1 hf.2
    rw [ack_yes h]
    refine ⟨good_filter o.log _, o.kn, o.kl, hr.1, hr.2, fun p hp => o.low p (List.mem_filter.1 hp).1, o.top, ?_, o.las, o.lo, o.ti⟩
    have hm := fst_mem hv.1.1
    have h1 := valid_fits hv hm
    have h2 := knownB_mem (hk _ hm) h1 _ h1 (Int.le_refl _)
    show max X.gr (fst_ a.ranges).2 = -1 ∨ mem X.kn (max X.gr (fst_ a.ranges).2)
    by_cases h3 : X.gr ≤ (fst_ a.ranges).2
    · rw [Int.max_eq_right h3]; exact .inr h2
    · rw [Int.max_eq_left (by omega)]; exact o.gr
  · rw [(ack_no h).1]; exact o
theorem OkS.okL {X : Sp} (o : OkS X) : OkL X.l := ⟨Nat.le_trans o.log.len o.log.room1.2, fun p hp => (o.log.good p hp).1, o.log.rise⟩
theorem OkS.gr_bd {X : Sp} (o : OkS X) : X.gr = -1 ∨ (0 ≤ X.gr ∧ X.gr ≤ 9007199254740991) := by
  rcases o.gr with h | h
  · exact .inl h
  · have := SpnM.mem_num o.kn h; exact .inr this
theorem loseE_is {X : Sp} (o : OkS X) (now : Int) (r : Rt) : loseE X now r = if RttM.tm now then chk r else 9 := by
  unfold loseE findE
  rw [if_pos (chkL_ok o.okL)]
  by_cases h : RttM.tm now
  · rw [if_pos h, if_pos ⟨o.gr_bd, h⟩]
  · rw [if_neg h, if_neg (fun e => h e.2)]
theorem lose_yes {X : Sp} {now : Int} {r : Rt} (h : loseE X now r = 0) : lose X now r = { X with l := restL X.gr now (wait r) X.l, lo := atF X.gr now (wait r) X.l } ∧ loseL X now r = lostL X.gr now (wait r) X.l := ⟨if_pos h, if_pos h⟩
theorem lose_no {X : Sp} {now : Int} {r : Rt} (h : loseE X now r ≠ 0) : lose X now r = X ∧ loseL X now r = [] := ⟨if_neg h, if_neg h⟩
theorem lose_ok {X : Sp} (o : OkS X) (now : Int) (r : Rt) : OkS (lose X now r) := by
  by_cases h : loseE X now r = 0
  · rw [(lose_yes h).1]
    exact ⟨good_filter o.log _, o.kn, o.kl, o.re, o.rl, fun p hp => o.low p (List.mem_filter.1 hp).1, o.top, o.gr, o.las, atF_time (wait_lo r).1 (fun p hp => (o.log.good p hp).1), o.ti⟩
  · rw [(lose_no h).1]; exact o
theorem disc_ok {X : Sp} (o : OkS X) : OkS (disc X) := ⟨o.log.nil, o.kn, o.kl, o.re, o.rl, (fun p h => by cases h), o.top, o.gr, o.las, .inl rfl, .inl rfl⟩
/-! Properties. -/
theorem gr_ack (X : Sp) (a : Ack) : X.gr ≤ (ack X a).gr := by
  by_cases h : ackE X a = 0
  · rw [ack_yes h]; exact Int.le_max_left _ _
  · rw [(ack_no h).1]; exact Int.le_refl _
theorem behind {X : Sp} {now : Int} {r : Rt} (h : loseE X now r = 0) : ∀ p ∈ (lose X now r).l, X.gr - 3 < p.n := fun p hp => by
  rw [(lose_yes h).1] at hp
  obtain ⟨_, h2⟩ := List.mem_filter.1 hp
  have h3 : lostB X.gr now (wait r) p = false := by simpa using h2
  have := of_decide_eq_false h3
  omega
theorem filter_both (f : Pk → Bool) (l : List Pk) : (l.filter f).length + (l.filter fun p => !f p).length = l.length := by
  induction l with
  | nil => rfl
  | cons p t ih => cases h : f p <;> simp [h] <;> omega
structure Rn (X : Sp) (S A B G : List Int) (now : Int) (m : Nat) : Prop where
  ok : OkS X
  s : ∀ n, mem X.kn n ↔ n ∈ S
  rise : S.Pairwise (fun a b => a < b)
  las : X.last = -1 ∨ X.last ∈ S
  lm : X.last ≤ 3 * m
  a : ∀ n ∈ A, n ∈ S ∧ ∀ p ∈ X.l, p.n ≠ n
  b : ∀ n ∈ B, n ∈ S ∧ ∀ p ∈ X.l, p.n ≠ n
  dis : ∀ n ∈ A, n ∉ B
  g : ∀ n ∈ G, (n ∈ S ∧ ∀ p ∈ X.l, p.n ≠ n) ∧ n ∉ A ∧ n ∉ B
  cnt : X.l.length + A.length + B.length + G.length = S.length
  now0 : 0 ≤ now
  now1 : now ≤ 1073741824 * m
  ti : ∀ p ∈ X.l, p.t ≤ now
theorem Rn.new {room : Nat} (h : 1 ≤ room ∧ room ≤ 256) : Rn (new room) [] [] [] [] 0 0 :=
  ⟨new_ok h, fun n => ⟨fun h => absurd h SpnM.mem_nil, fun h => by cases h⟩, List.Pairwise.nil, .inl rfl, by show (-1 : Int) ≤ _; omega, fun n h => (by cases h), fun n h => (by cases h), fun n h => (by cases h), fun n h => (by cases h), rfl, Int.le_refl _, by omega, fun p h => (by cases h)⟩
section
variable {X : Sp} {S A B G : List Int} {now d : Int} {m : Nat}
theorem Rn.later (h : Rn X S A B G now m) (h0 : 0 ≤ d) (h1 : d < 1073741824) : Rn X S A B G (now + d) (m + 1) :=
  ⟨h.ok, h.s, h.rise, h.las, by have := h.lm; omega, h.a, h.b, h.dis, h.g, h.cnt, by have := h.now0; omega, by have := h.now1; omega, fun p hp => by have := h.ti p hp; omega⟩
theorem Rn.sent_ (h : Rn X S A B G now m) {p : Pk} (e : sentE X p = 0) (hn : p.n ≤ 3 * m) (ht : p.t ≤ now) : Rn (sent X p) (S ++ [p.n]) A B G now m := by
  obtain ⟨⟨hv, hl, hr⟩, hk⟩ := sentE_of e
  have ok' := sent_ok h.ok p
  rw [sent_yes e] at ok' ⊢
  have new : ∀ n ∈ S, n < p.n := fun n hn' => by have := h.ok.top n ((h.s n).2 hn'); omega
  refine ⟨ok', fun n => ?_, ?_, .inr (List.mem_append_right _ (List.mem_singleton.2 rfl)), hn, fun n hn' => ?_, fun n hn' => ?_, h.dis, fun n hn' => ?_, ?_, h.now0, h.now1, fun q hq => ?_⟩
  · show mem (add X.kn p.n p.n) n ↔ _
    rw [SpnM.mem_add h.ok.kn (Int.le_refl _), h.s n, List.mem_append, List.mem_singleton]
    constructor
    · rintro (h1 | h1)
      · exact .inl h1
      · exact .inr (by omega)
    · rintro (h1 | h1)
      · exact .inl h1
      · exact .inr (by omega)
  · rw [List.pairwise_append]
    exact ⟨h.rise, List.pairwise_singleton _ _, fun a ha b hb => by rw [List.mem_singleton.1 hb]; exact new a ha⟩
  · obtain ⟨h1, h2⟩ := h.a n hn'
    refine ⟨List.mem_append_left _ h1, fun q hq => ?_⟩
    rcases List.mem_append.1 hq with h3 | h3
    · exact h2 q h3
    · rw [List.mem_singleton.1 h3]; have := new n h1; omega
  · obtain ⟨h1, h2⟩ := h.b n hn'
    refine ⟨List.mem_append_left _ h1, fun q hq => ?_⟩
    rcases List.mem_append.1 hq with h3 | h3
    · exact h2 q h3
    · rw [List.mem_singleton.1 h3]; have := new n h1; omega
  · obtain ⟨⟨h1, h2⟩, h5⟩ := h.g n hn'
    refine ⟨⟨List.mem_append_left _ h1, fun q hq => ?_⟩, h5⟩
    rcases List.mem_append.1 hq with h3 | h3
    · exact h2 q h3
    · rw [List.mem_singleton.1 h3]; have := new n h1; omega
  · show (X.l ++ [p]).length + _ + _ + _ = _
    rw [List.length_append, List.length_append]
    have := h.cnt
    simp only [List.length_cons, List.length_nil]
    omega
  · rcases List.mem_append.1 hq with h3 | h3
    · exact h.ti q h3
    · rw [List.mem_singleton.1 h3]; exact ht
theorem Rn.told (h : Rn X S A B G now m) (f : Pk → Bool) : ∀ p ∈ X.l.filter f, p.n ∈ S ∧ p.n ∉ A ∧ p.n ∉ B := fun p hp => by
  have hp' := (List.mem_filter.1 hp).1
  exact ⟨(h.s _).1 (h.ok.low p hp'), fun e => (h.a _ e).2 p hp' rfl, fun e => (h.b _ e).2 p hp' rfl⟩
theorem rise_inj {l : List Pk} (hr : Rise l) {p q : Pk} (hp : p ∈ l) (hq : q ∈ l) (e : p.n = q.n) : p = q := by
  obtain ⟨i, hi, rfl⟩ := SntM.mem_at hp
  obtain ⟨j, hj, rfl⟩ := SntM.mem_at hq
  rcases Nat.lt_trichotomy i j with h | h | h
  · have := rise_at hr h hj; omega
  · rw [h]
  · have := rise_at hr h hi; omega
theorem Rn.gone (h : Rn X S A B G now m) (f : Pk → Bool) : (∀ n ∈ (X.l.filter f).map Pk.n, n ∈ S ∧ ∀ q ∈ X.l.filter (fun p => !f p), q.n ≠ n) := fun n hn => by
  obtain ⟨p, hp, rfl⟩ := List.mem_map.1 hn
  obtain ⟨hp1, hp2⟩ := List.mem_filter.1 hp
  refine ⟨(h.s _).1 (h.ok.low p hp1), fun q hq e => ?_⟩
  obtain ⟨hq1, hq2⟩ := List.mem_filter.1 hq
  have := rise_inj h.ok.log.rise hq1 hp1 e
  subst this
  rw [hp2] at hq2
  cases hq2
theorem Rn.ack_ (h : Rn X S A B G now m) {a : Ack} (e : ackE X a = 0) : Rn (ack X a) S (A ++ (ackL X a).map Pk.n) B G now m := by
  have ok' := ack_ok h.ok a
  have hg := h.gone (fun p => inB a.ranges p.n)
  have ht := h.told (fun p => inB a.ranges p.n)
  have eL : ackL X a = X.l.filter (fun p => inB a.ranges p.n) := if_pos e
  rw [eL]
  rw [ack_yes e] at ok' ⊢
  have sub : ∀ p ∈ left X a.ranges, p ∈ X.l := fun p hp => (List.mem_filter.1 hp).1
  refine ⟨ok', h.s, h.rise, h.las, h.lm, fun n hn => ?_, fun n hn => ⟨(h.b n hn).1, fun p hp => (h.b n hn).2 p (sub p hp)⟩, fun n hn hb => ?_, fun n hn => ?_, ?_, h.now0, h.now1, fun p hp => h.ti p (sub p hp)⟩
  · rcases List.mem_append.1 hn with h1 | h1
    · exact ⟨(h.a n h1).1, fun p hp => (h.a n h1).2 p (sub p hp)⟩
    · exact hg n h1
  · rcases List.mem_append.1 hn with h1 | h1
    · exact h.dis n h1 hb
    · obtain ⟨p, hp, rfl⟩ := List.mem_map.1 h1
      exact (ht p hp).2.2 hb
  · obtain ⟨⟨h1, h2⟩, h3, h4⟩ := h.g n hn
    refine ⟨⟨h1, fun p hp => h2 p (sub p hp)⟩, fun e2 => ?_, h4⟩
    rcases List.mem_append.1 e2 with h5 | h5
    · exact h3 h5
    · obtain ⟨p, hp, rfl⟩ := List.mem_map.1 h5
      exact h2 p (List.mem_filter.1 hp).1 rfl
  · have := filter_both (fun p => inB a.ranges p.n) X.l
    have hc := h.cnt
    show (left X a.ranges).length + _ + _ + _ = _
    unfold left
    rw [List.length_append, List.length_map]
    omega
theorem Rn.lose_ (h : Rn X S A B G now m) {t : Int} {r : Rt} (e : loseE X t r = 0) : Rn (lose X t r) S A (B ++ (loseL X t r).map Pk.n) G now m := by
  have ok' := lose_ok h.ok t r
  have hg := h.gone (lostB X.gr t (wait r))
  have ht := h.told (lostB X.gr t (wait r))
  rw [(lose_yes e).2]
  rw [(lose_yes e).1] at ok' ⊢
  have sub : ∀ p ∈ restL X.gr t (wait r) X.l, p ∈ X.l := fun p hp => (List.mem_filter.1 hp).1
  refine ⟨ok', h.s, h.rise, h.las, h.lm, fun n hn => ⟨(h.a n hn).1, fun p hp => (h.a n hn).2 p (sub p hp)⟩, fun n hn => ?_, fun n hn hb => ?_, fun n hn => ?_, ?_, h.now0, h.now1, fun p hp => h.ti p (sub p hp)⟩
  · rcases List.mem_append.1 hn with h1 | h1
    · exact ⟨(h.b n h1).1, fun p hp => (h.b n h1).2 p (sub p hp)⟩
    · exact hg n h1
  · rcases List.mem_append.1 hb with h1 | h1
    · exact h.dis n hn h1
    · obtain ⟨p, hp, rfl⟩ := List.mem_map.1 h1
      exact (ht p hp).2.1 hn
  · obtain ⟨⟨h1, h2⟩, h3, h4⟩ := h.g n hn
    refine ⟨⟨h1, fun p hp => h2 p (sub p hp)⟩, h3, fun e2 => ?_⟩
    rcases List.mem_append.1 e2 with h5 | h5
    · exact h4 h5
    · obtain ⟨p, hp, rfl⟩ := List.mem_map.1 h5
      exact h2 p (List.mem_filter.1 hp).1 rfl
  · have := split_len X.gr t (wait r) X.l
    have hc := h.cnt
    show (restL X.gr t (wait r) X.l).length + _ + _ + _ = _
    rw [List.length_append, List.length_map]
    omega
theorem Rn.disc_ (h : Rn X S A B [] now m) : Rn (disc X) S A B (X.l.map Pk.n) now m :=
  ⟨disc_ok h.ok, h.s, h.rise, h.las, h.lm, fun n hn => ⟨(h.a n hn).1, fun p hp => by cases hp⟩, fun n hn => ⟨(h.b n hn).1, fun p hp => by cases hp⟩, h.dis, fun n hn => by
    obtain ⟨p, hp, rfl⟩ := List.mem_map.1 hn
    exact ⟨⟨(h.s _).1 (h.ok.low p hp), fun q hq => by cases hq⟩, fun e => (h.a _ e).2 p hp rfl, fun e => (h.b _ e).2 p hp rfl⟩, by
    have := h.cnt
    show (0 : Nat) + A.length + B.length + (X.l.map Pk.n).length = S.length
    rw [List.length_map]
    simp only [List.length_nil] at this
    omega, h.now0, h.now1, fun p hp => by cases hp⟩
theorem Rn.sentE_ (h : Rn X S A B G now m) {p : Pk} (hv : valid p) (hn : X.last < p.n) : sentE X p = 0 ∨ sentE X p = 5 := by
  have e : putErr X.room X.last X.l p = if X.l.length = X.room then 5 else 0 := by
    unfold putErr; rw [if_neg (fun e => e hv), if_neg (by omega)]
  unfold sentE
  by_cases h1 : X.l.length = X.room
  · rw [if_pos h1] at e
    rw [if_neg (by rw [e]; decide), e]
    exact .inr rfl
  · rw [if_neg h1] at e
    rw [if_pos e]
    unfold addErr
    rw [if_pos ⟨valid_num hv, valid_num hv, Int.le_refl _⟩]
    split
    · exact .inr rfl
    · exact .inl rfl
theorem Rn.known (h : Rn X S A B G now m) {r : R} (hr : r.1 ≤ r.2) (hs : ∀ n, r.1 ≤ n → n ≤ r.2 → n ∈ S) : knownB X.kn r = true :=
  knownB_of h.ok.kn hr (fun n h1 h2 => (h.s n).2 (hs n h1 h2))
theorem Rn.unknown (h : Rn X S A B G now m) {r : R} {n : Int} (h1 : r.1 ≤ n) (h2 : n ≤ r.2) (hn : n ∉ S) : knownB X.kn r = false := by
  cases e : knownB X.kn r with
  | false => rfl
  | true => exact absurd ((h.s n).1 (knownB_mem e (by omega) n h1 h2)) hn
end
theorem dense_row {S : List Int} {lo k : Nat} (hk : k < S.length) (hlo : lo ≤ k) (h : ∀ j, lo < j → j ≤ k → S[j]! = S[j - 1]! + 1) : ∀ j, lo ≤ j → j ≤ k → S[j]! = S[lo]! + ((j - lo : Nat) : Int) := by
  intro j h1
  induction j with
  | zero => intro _; rw [show lo = 0 by omega]; simp
  | succ j ih =>
    intro h2
    by_cases h3 : lo = j + 1
    · subst h3; simp
    · rw [h (j + 1) (by omega) h2, show j + 1 - 1 = j by omega, ih (by omega) (by omega)]
      omega
end Go.Proofs.YtilkgjpgoogiiaaGreat.SpaM
namespace Go.Proofs.YtilkgjpgoogiiaaGreat.SpaM
open Cd SntM LosM
open SpnM (R Rises mem num add addErr addTo cut cutTo has)
open FrmM (Ack Valid check falls)
def drops (l qs : List Pk) : List Pk := qs.foldl (fun m q => dropL m q.n) l
theorem drops_snoc (l qs : List Pk) (q : Pk) : drops l (qs ++ [q]) = dropL (drops l qs) q.n := by unfold drops; rw [List.foldl_append]; rfl
theorem drops_eq (qs : List Pk) : ∀ l, drops l qs = l.filter (fun p => qs.all (fun q => decide (p.n ≠ q.n))) := by
  induction qs with
  | nil => intro l; exact (List.filter_eq_self.2 (fun _ _ => rfl)).symm
  | cons q qs ih =>
    intro l
    show drops (dropL l q.n) qs = _
    rw [ih]
    unfold dropL
    rw [List.filter_filter]
    congr 1
    funext p
    simp [Bool.and_comm]
theorem drops_filter {l : List Pk} (hr : Rise l) (f : Pk → Bool) : drops l (l.filter f) = l.filter (fun p => !f p) := by
  rw [drops_eq]
  refine List.filter_congr fun p hp => ?_
  cases hf : f p with
  | true =>
    show _ = false
    rw [List.all_eq_false]
    exact ⟨p, List.mem_filter.2 ⟨hp, hf⟩, by simp⟩
  | false =>
    show _ = true
    rw [List.all_eq_true]
    intro q hq
    obtain ⟨h1, h2⟩ := List.mem_filter.1 hq
    refine decide_eq_true fun e => ?_
    have := rise_inj hr hp h1 e
    subst this
    rw [hf] at h2
    cases h2
theorem take_snoc {l : List Pk} {i : Nat} (hi : i < l.length) : l.take (i + 1) = l.take i ++ [Cd.at_ l i] := by
  rw [Cd.at_of hi, List.take_succ_eq_append_getElem hi]
theorem drops_take {l qs : List Pk} {i : Nat} (hi : i < qs.length) : drops l (qs.take (i + 1)) = dropL (drops l (qs.take i)) (Cd.at_ qs i).n := by
  rw [take_snoc hi, drops_snoc]
theorem fil_yes {l : List Pk} {f : Pk → Bool} {i : Nat} (hi : i < l.length) (h : f (Cd.at_ l i) = true) : (l.take (i + 1)).filter f = (l.take i).filter f ++ [Cd.at_ l i] := by
  rw [take_snoc hi, List.filter_append]; simp [h]
theorem fil_no {l : List Pk} {f : Pk → Bool} {i : Nat} (hi : i < l.length) (h : f (Cd.at_ l i) = false) : (l.take (i + 1)).filter f = (l.take i).filter f := by
  rw [take_snoc hi, List.filter_append]; simp [h]
theorem rem_step {re : List R} {rs : List R} {i : Nat} (hi : i < rs.length) : remember re (rs.take (i + 1)) = addTo 256 (remember re (rs.take i)) (SpnM.at_ rs i).1 (SpnM.at_ rs i).2 := by
  rw [SpnM.at_of hi, List.take_succ_eq_append_getElem hi, remember_snoc]
theorem all_no {kn rs : List R} {i : Nat} (hi : i < rs.length) (h : knownB kn (SpnM.at_ rs i) = false) : rs.all (knownB kn) = false := by
  rw [List.all_eq_false]
  exact ⟨_, SpnM.at_mem hi, by rw [h]; decide⟩
theorem has_in {a : Ack} (hv : Valid a) (n : Int) : (decide (Valid a) && a.ranges.any (fun r => decide (r.1 ≤ n) && decide (n ≤ r.2))) = inB a.ranges n := by rw [decide_eq_true hv]; rfl
end Go.Proofs.YtilkgjpgoogiiaaGreat.SpaM
namespace Go.Proofs.YtilkgjpgoogiiaaGreat.Spa
open Go.RowKit Wd Bxs Obs Ths SpaM
open SntM (Pk putErr putL putTop dropL getP getB fly eli)
open Snt (pkC pkV pkA)
open SpnM (R addErr addTo cutErr cutTo has add)
open FrmM (Ack check)
open RttM (Rt)
open Rtt (rtV rtA)
abbrev kV (A : Option Addr) (n d : Nat) (k : Ack) : Value := .agg #[.int .i64 k.delay, .slice A n d, .bool k.marked, .int .i64 k.m0, .int .i64 k.m1, .int .i64 k.m2]
structure SpaS (spaO : Nat → Sp → Ob) : Prop where
  new : ∀ {w V : World} {L : List Ob}, Sx w L V → ∀ room : Nat, 1 ≤ room → room ≤ 256 → Calls Tryz.prog 10 #[.int .i64 (room : Int)] V (fun e W => ∃ s, e = .returned (.tuple #[ptr s, .int .i64 0]) ∧ Sx w (spaO s (SpaM.new room) :: L) W)
  bad : ∀ room : Int, ¬ (1 ≤ room ∧ room ≤ 256) → ∀ V, Calls Tryz.prog 10 #[.int .i64 room] V (fun e W => e = .returned (.tuple #[.pointer none, .int .i64 2]) ∧ Kept V W)
  sent : ∀ (s : Nat) (X : Sp) (p : Pk), OkS X → Mt Tryz.prog 15 #[ptr s, pkV p] (spaO s X) (.int .i64 (sentE X p)) (spaO s (SpaM.sent X p))
  may : ∀ (s : Nat) (X : Sp) (p : Pk), OkS X → Mt Tryz.prog 41 #[ptr s, pkV p] (spaO s X) (.int .i64 (sentE X p)) (spaO s X)
  ack : ∀ {w V : World} {M : List Ob} {s n d : Nat} {X : Sp} {A : Option Addr} (k : Ack), OkS X → Sx w (spaO s X :: rngO A n d k.ranges :: M) V → Calls Tryz.prog 17 #[ptr s, kV A n d k] V (fun e W => ∃ A1 n1 d1, e = .returned (.tuple #[.slice A1 n1 d1, .int .i64 (ackE X k)]) ∧ n1 = (ackL X k).length ∧ Sx w (pkO A1 n1 d1 (ackL X k) :: spaO s (SpaM.ack X k) :: rngO A n d k.ranges :: M) W)
  lose : ∀ {w V : World} {M : List Ob} {s : Nat} {X : Sp} (now : Int) (r : Rt), OkS X → Sx w (spaO s X :: M) V → Calls Tryz.prog 19 #[ptr s, .int .i64 now, rtV r] V (fun e W => ∃ A n c, e = .returned (.tuple #[.slice A n c, .int .i64 (loseE X now r)]) ∧ n = (loseL X now r).length ∧ Sx w (pkO A n c (loseL X now r) :: spaO s (SpaM.lose X now r) :: M) W)
  persists : ∀ {w V : World} {L : List Ob} {s : Nat} {X : Sp}, OkS X → Sx w L V → ∀ i : Nat, L[i]? = some (spaO s X) → ∀ {A : Option Addr} {n c : Nat} {lost : List Pk}, Los.Src V A n c lost → n ≤ 256 → ∀ (r : Rt) (d : Int), Calls Tryz.prog 42 #[ptr s, .slice A n c, rtV r, .int .i64 d] V (fun e W => e = .returned (.bool (Per.isT (has X.re) lost r d)) ∧ Kept V W)
  disc : ∀ (s : Nat) (X : Sp), OkS X → Mt Tryz.prog 23 #[ptr s] (spaO s X) (.tuple #[]) (spaO s (SpaM.disc X))
  last : ∀ (s : Nat) (X : Sp), OkS X → Mt Tryz.prog 35 #[ptr s] (spaO s X) (.int .i64 X.last) (spaO s X)
  great : ∀ (s : Nat) (X : Sp), OkS X → Mt Tryz.prog 32 #[ptr s] (spaO s X) (.int .i64 X.gr) (spaO s X)
  loss : ∀ (s : Nat) (X : Sp), OkS X → Mt Tryz.prog 33 #[ptr s] (spaO s X) (.int .i64 X.lo) (spaO s X)
  time : ∀ (s : Nat) (X : Sp), OkS X → Mt Tryz.prog 40 #[ptr s] (spaO s X) (.int .i64 X.ti) (spaO s X)
  flight : ∀ (s : Nat) (X : Sp), OkS X → Mt Tryz.prog 30 #[ptr s] (spaO s X) (.int .i64 (fly X.l)) (spaO s X)
  eliciting : ∀ (s : Nat) (X : Sp), OkS X → Mt Tryz.prog 31 #[ptr s] (spaO s X) (.int .i64 (eli X.l)) (spaO s X)
  all : ∀ {w V : World} {L : List Ob} {s : Nat} {X : Sp}, OkS X → Sx w L V → ∀ i : Nat, L[i]? = some (spaO s X) → Calls Tryz.prog 28 #[ptr s] V (fun e W => ∃ A c, e = .returned (.slice A X.l.length c) ∧ Sx w (pkO A X.l.length c X.l :: L) W)
  copy : ∀ {w V : World} {L : List Ob} {s : Nat} {X : Sp}, OkS X → Sx w L V → ∀ i : Nat, L[i]? = some (spaO s X) → Calls Tryz.prog 21 #[ptr s] V (fun e W => ∃ q, e = .returned (ptr q) ∧ Sx w (spaO q X :: L) W)
end Go.Proofs.YtilkgjpgoogiiaaGreat.Spa
namespace Go.Proofs.YtilkgjpgoogiiaaGreat.Spa
open Go.RowKit Wd Bxs Obs Ths SpaM
open SntM (Pk putErr putL putTop dropL getP getB fly eli)
open Snt (pkC pkV pkA)
open SpnM (R addErr addTo cutErr cutTo has add)
open FrmM (Ack check)
open RttM (Rt)
open Rtt (rtV rtA)
theorem info_p2 : (Tryz.prog.info? 67).map (fun i => (i.zero, i.size, i.bytes)) = some (some (.agg #[.int .i64 0, .int .i64 0]), 2, 16) := by kernel_rfl
noncomputable def p2E : Cd.Elt Tryz.prog rgC 117 67 :=
  { i := (info_parts info_p2).choose
    z := .agg #[.int .i64 0, .int .i64 0]
    bytes := 16
    und := Tryz.underlying117
    info := (info_parts info_p2).choose_spec.1
    zero := (info_parts info_p2).choose_spec.2.1
    size := (info_parts info_p2).choose_spec.2.2.1
    byt := (info_parts info_p2).choose_spec.2.2.2
    zs := rfl
    few := by decide }
def p2O (A : Option Addr) (n c : Nat) (l : List R) : Ob := rowO rgC 67 A n c l
theorem p2_cells {w : World} {g n c k : Nat} {l : List R} (h : Cd.Rw rgC 67 w (some ⟨g, 0, none⟩) n c l) (hk : k < n) : w.cell? ⟨g, k * 2, none⟩ = some (.int .i64 (Cd.at_ l k).1) ∧ w.cell? ⟨g, k * 2 + 1, none⟩ = some (.int .i64 (Cd.at_ l k).2) :=
  ⟨h.cell hk (j := 0) (by decide), h.cell hk (j := 1) (by decide)⟩
theorem box_row {α : Type} {C : Cd.Cod α} {t : TypeId} {w W : World} {M : List Ob} {g n : Nat} {cs : Array Value} (l : List α) (hc : cs.toList = Cd.flat C l) (hl : l.length = n) (hn : n ≤ 1000) (h : Sx w (box g t cs :: M) W) : Sx w (rowO C t (some ⟨g, 0, none⟩) n n l :: M) W :=
  h.as 0 rfl (o' := rowO C t (some ⟨g, 0, none⟩) n n l) fun F ⟨e, hb⟩ => ⟨e, Cd.Rw.mk' hl hb (Nat.le_refl _) (by unfold maxLen; omega) (by have : cs.toList.length = _ := congrArg List.length hc; rw [Cd.flat_length, hl] at this; exact this) (by rw [hc]; exact List.take_of_length_le (by rw [Cd.flat_length, hl]; exact Nat.le_refl _))⟩
abbrev std : Rt := ⟨100, 1, 100, 0, 0⟩
abbrev mkp (n t : Int) : Pk := ⟨n, t, 100, true, true, false⟩
theorem steady_any (w : World) : Calls Tryz.prog 34 #[] w (fun e W => e = .returned (rtV std) ∧ Kept w W) := by
  have B := Blk.new w 38 (rtA std)
  have c0 := B.cell 0
  have c1 := B.cell 1
  have c2 := B.cell 2
  have c3 := B.cell 3
  have c4 := B.cell 4
  have k := (Kept.refl w).alloc (.cells (rtA std) 38)
  go_enter Tryz.func34, Tryz.ntmps34
  go_wp2_with fail
  refine bodyPost_ret (v := rtV std) ?_ rfl ⟨rfl, k⟩
  simp [results, Tryz.f34, go_sem, c0, c1, c2, c3, c4]
theorem packet_any (n t : Int) (w : World) : Calls Tryz.prog 39 #[.int .i64 n, .int .i64 t] w (fun e W => e = .returned (pkV (mkp n t)) ∧ Kept w W) := by
  have B := Blk.new w 32 (pkA (mkp n t))
  have c0 := B.cell 0
  have c1 := B.cell 1
  have c2 := B.cell 2
  have c3 := B.cell 3
  have c4 := B.cell 4
  have c5 := B.cell 5
  have k := (Kept.refl w).alloc (.cells (pkA (mkp n t)) 32)
  go_enter Tryz.func39, Tryz.ntmps39
  go_wp2_with fail
  refine bodyPost_ret (v := pkV (mkp n t)) ?_ rfl ⟨rfl, k⟩
  simp [results, Tryz.f39, go_sem, c0, c1, c2, c3, c4, c5]
theorem numbers_sx {w V : World} {L : List Ob} {A : Option Addr} {c : Nat} {l : List Pk} {N : List Int} (hN : l.map Pk.n = N) (h : Sx w (pkO A l.length c l :: L) V) (hl : l.length ≤ 1000) : Calls Tryz.prog 38 #[.slice A l.length c] V (fun e W => ∃ A1 c1, e = .returned (.slice A1 N.length c1) ∧ Sx w (inO A1 N.length c1 N :: pkO A l.length c l :: L) W) := by
  have D : Hid (Sx w (inO none 0 0 [] :: pkO A l.length c l :: L) V) := Lib.hid (row_nil h)
  have HN := Lib.hid hN
  clear h hN
  go_enter Tryz.func38, Tryz.ntmps38
  go_wp2_with fail
  go_loopw [3, 4] (fun s3 s4 wr => ∃ (i : Nat) (A1 : Option Addr) (c1 : Nat) (Li : List Int), i ≤ l.length ∧ s3 = .slice A1 Li.length c1 ∧ s4 = .int .i64 i ∧ Hid (Li = (l.take i).map Pk.n) ∧ Hid (Sx w (inO A1 Li.length c1 Li :: pkO A l.length c l :: L) wr)) (fun _ s4 _ => l.length - (intOf s4).toNat)
  case atStart => exact ⟨0, none, 0, [], Nat.zero_le _, rfl, rfl, Lib.hid rfl, D⟩
  case round =>
    obtain ⟨i, A1, c1, Li, hi, rfl, rfl, HI, HD⟩ := hrel
    clear D
    have D := HD
    clear HD
    by_cases hlt : i < l.length
    · have hi0 : (0 : Int) ≤ (i : Int) := by omega
      have hi1 : (i : Int) < (l.length : Int) := by omega
      have hwi : IntKind.i64.wrap ((i : Int) + 1) = (i : Int) + 1 := IntWalk.i64_in _ (by omega)
      obtain ⟨g, rfl, hg⟩ := (pk_row D.out 1 rfl).some_ (by omega)
      have y0 := (Snt.prow_cells (pk_row D.out 1 rfl) hlt).1
      have HI' : Hid (Li ++ [(Cd.at_ l i).n] = (l.take (i + 1)).map Pk.n) := Lib.hid (by rw [take_snoc hlt, List.map_append, HI.out]; rfl)
      have hm : Li.length ≤ 1000 := by rw [HI.out, List.length_map, List.length_take]; omega
      generalize (Cd.at_ l i).n = x at *
      go_wp2_with (at_builtin; refine wpList_sxE inE rfl (.tmp 11) (.tmp 17) rfl x rfl D.out rfl (by omega) rfl ?_; intro A3 d3 w4 HD3; have D3 := HD3)
      go_roundw
      case rel => exact ⟨i + 1, A3, d3, Li ++ [x], by omega, by rw [List.length_append]; rfl, by go_num, HI', D3⟩
      case measure => simp [intOf]; omega
    · have hi1 : ¬ (i : Int) < (l.length : Int) := by omega
      obtain rfl : i = l.length := by omega
      obtain rfl : Li = N := by rw [HI.out, List.take_length]; exact HN.out
      clear HI HN
      go_wp2_with fail
      go_ret
      exact ⟨A1, c1, rfl, D.out⟩
def inL (l : List Int) (n : Int) : Bool := l.any (fun x => decide (x = n))
theorem inL_iff {l : List Int} {n : Int} : inL l n = true ↔ n ∈ l := by
  unfold inL
  rw [List.any_eq_true]
  constructor
  · rintro ⟨x, hx, e⟩
    rw [of_decide_eq_true e] at hx; exact hx
  · intro h; exact ⟨n, h, decide_eq_true rfl⟩
theorem inL_no {l : List Int} {n : Int} (h : n ∉ l) : inL l n = false := by
  cases e : inL l n with
  | false => rfl
  | true => exact absurd (inL_iff.1 e) h
theorem inL_yes {l : List Int} {n : Int} (h : n ∈ l) : inL l n = true := inL_iff.2 h
theorem has_sx {w V : World} {L : List Ob} (i : Nat) {A : Option Addr} {c : Nat} {l : List Int} (h : Sx w L V) (hi : L[i]? = some (inO A l.length c l)) (hl : l.length ≤ 1000) (x : Int) : Calls Tryz.prog 29 #[.slice A l.length c, .int .i64 x] V (Gets (.bool (inL l x)) w L) := by
  have D : Hid (Sx w L V) := Lib.hid h
  have HR : Hid (Cd.Rw inC 3 V A l.length c l) := Lib.hid (row_at h i hi)
  clear h hi
  go_enter Tryz.func29, Tryz.ntmps29
  go_wp2_with fail
  go_loopw [5] (fun s5 wr => ∃ k : Nat, k ≤ l.length ∧ s5 = .int .i64 k ∧ Hid (∀ j, j < k → Cd.at_ l j ≠ x) ∧ Hid (Kept V wr)) (fun s5 _ => l.length - (intOf s5).toNat)
  case atStart => exact ⟨0, Nat.zero_le _, rfl, Lib.hid (fun j hj => absurd hj (Nat.not_lt_zero _)), Lib.hid (Kept.refl _)⟩
  case round =>
    obtain ⟨k, hk, rfl, hall, hK⟩ := hrel
    by_cases hlt : k < l.length
    · have hi0 : (0 : Int) ≤ (k : Int) := by omega
      have hi1 : (k : Int) < (l.length : Int) := by omega
      have hwi : IntKind.i64.wrap ((k : Int) + 1) = (k : Int) + 1 := IntWalk.i64_in _ (by omega)
      obtain ⟨g, rfl, hg⟩ := HR.out.some_ (by omega)
      have y0 := in_cell (HR.out.kept hK.out) hlt
      have hY : Hid (Cd.at_ l k = x → inL l x = true) := Lib.hid (fun e => inL_yes (by rw [← e]; exact Cd.at_mem hlt))
      have hZ : Hid (Cd.at_ l k ≠ x → ∀ j, j < k + 1 → Cd.at_ l j ≠ x) := Lib.hid (fun h j hj => by
        rcases Nat.lt_succ_iff_lt_or_eq.1 hj with h1 | rfl
        · exact hall.out j h1
        · exact h)
      generalize Cd.at_ l k = y at *
      clear hall
      by_cases he : y = x
      · subst he
        have hY' := Lib.hid (hY.out rfl)
        clear hY hZ
        go_wp2_with fail
        go_ret
        exact ⟨ret_bool hY'.out.symm, D.out.on hK.out⟩
      · have he' : (y == x) = false := by simp [he]
        have hZ' := Lib.hid (hZ.out he)
        clear he hZ hY
        go_wp2_with fail
        go_roundw
        case rel => exact ⟨k + 1, by omega, by go_num, hZ', hK⟩
        case measure => simp [intOf]; omega
    · have hi1 : ¬ (k : Int) < (l.length : Int) := by omega
      obtain rfl : k = l.length := by omega
      have hY : Hid (inL l x = false) := Lib.hid (inL_no fun hx => by
        obtain ⟨j, hj, e⟩ := List.getElem_of_mem hx
        exact hall.out j hj (by rw [Cd.at_of hj]; exact e))
      go_wp2_with fail
      go_ret
      exact ⟨ret_bool hY.out.symm, D.out.on hK.out⟩
theorem ack_sx {w V : World} {L : List Ob} {A : Option Addr} {c : Nat} {l : List R} (h : Sx w (p2O A l.length c l :: L) V) (hl : l.length ≤ 1000) : Calls Tryz.prog 36 #[.slice A l.length c] V (fun e W => ∃ A1 c1, e = .returned (kV A1 l.length c1 ⟨0, l, false, 0, 0, 0⟩) ∧ Sx w (rngO A1 l.length c1 l :: p2O A l.length c l :: L) W) := by
  have D : Hid (Sx w (box (V.heap.size + 1) 36 #[.int .i64 0, .slice none 0 0, .bool false, .int .i64 0, .int .i64 0, .int .i64 0] :: box V.heap.size 36 #[.int .i64 0, .slice none 0 0, .bool false, .int .i64 0, .int .i64 0, .int .i64 0] :: p2O A l.length c l :: L) ((V.alloc (.cells #[.int .i64 0, .slice none 0 0, .bool false, .int .i64 0, .int .i64 0, .int .i64 0] 36)).alloc (.cells #[.int .i64 0, .slice none 0 0, .bool false, .int .i64 0, .int .i64 0, .int .i64 0] 36))) := by
    have h1 := (h.new 36 #[.int .i64 0, .slice none 0 0, .bool false, .int .i64 0, .int .i64 0, .int .i64 0]).new 36 #[.int .i64 0, .slice none 0 0, .bool false, .int .i64 0, .int .i64 0, .int .i64 0]
    rw [World.size_alloc] at h1
    exact Lib.hid h1
  clear h
  go_enter Tryz.func36, Tryz.ntmps36
  go_wp2_with fail
  generalize (V.alloc (.cells #[.int .i64 0, .slice none 0 0, .bool false, .int .i64 0, .int .i64 0, .int .i64 0] 36)).alloc (.cells #[.int .i64 0, .slice none 0 0, .bool false, .int .i64 0, .int .i64 0, .int .i64 0] 36) = v1 at *
  generalize V.heap.size + 1 = K at *
  generalize V.heap.size = B at *
  have D : Hid (Sx w (rowO rgC 101 none 0 0 [] :: box K 36 #[.int .i64 0, .slice none 0 0, .bool false, .int .i64 0, .int .i64 0, .int .i64 0] :: box B 36 #[.int .i64 0, .slice none 0 0, .bool false, .int .i64 0, .int .i64 0, .int .i64 0] :: p2O A l.length c l :: L) v1) := Lib.hid (row_nil D.out)
  go_loopw [4] (fun s4 wr => ∃ (i : Nat) (A1 : Option Addr) (c1 : Nat) (Li : List R), i ≤ l.length ∧ s4 = .int .i64 i ∧ Hid (Li = l.take i) ∧ Hid (Sx w (rowO rgC 101 A1 Li.length c1 Li :: box K 36 #[.int .i64 0, (.slice A1 Li.length c1), .bool false, .int .i64 0, .int .i64 0, .int .i64 0] :: box B 36 #[.int .i64 0, .slice none 0 0, .bool false, .int .i64 0, .int .i64 0, .int .i64 0] :: p2O A l.length c l :: L) wr)) (fun s4 _ => l.length - (intOf s4).toNat)
  case atStart => exact ⟨0, none, 0, [], Nat.zero_le _, rfl, Lib.hid rfl, D⟩
  case round =>
    obtain ⟨i, A1, c1, Li, hi, rfl, HI, HD⟩ := hrel
    clear D
    have D := HD
    clear HD
    by_cases hlt : i < l.length
    · have hi0 : (0 : Int) ≤ (i : Int) := by omega
      have hi1 : (i : Int) < (l.length : Int) := by omega
      have hwi : IntKind.i64.wrap ((i : Int) + 1) = (i : Int) + 1 := IntWalk.i64_in _ (by omega)
      obtain ⟨g, rfl, hg⟩ := (row_at D.out 3 rfl).some_ (by omega)
      have HI' : Hid (Li ++ [Cd.at_ l i] = l.take (i + 1)) := Lib.hid (by rw [HI.out, Cd.at_of hlt, List.take_succ_eq_append_getElem hlt])
      have hm : Li.length ≤ 1000 := by rw [HI.out, List.length_take]; omega
      have DD := Lib.hid (D.out.on (Kept.refl wr).drew)
      obtain ⟨y0, y1⟩ := p2_cells (row_at D.out 3 rfl) hlt
      obtain ⟨z0, z1⟩ := p2_cells (row_at DD.out 3 rfl) hlt
      have Bk := D.out.box_ 1 rfl
      have ck := Bk.cell 1
      have tk := Bk.lt
      have Bd := DD.out.box_ 1 rfl
      have cd := Bd.cell 1
      have td := Bd.lt
      clear Bk Bd
      have hxy : Cd.at_ l i = ((Cd.at_ l i).1, (Cd.at_ l i).2) := rfl
      obtain ⟨x, hx⟩ : ∃ x, (Cd.at_ l i).1 = x := ⟨_, rfl⟩
      obtain ⟨y, hy⟩ : ∃ y, (Cd.at_ l i).2 = y := ⟨_, rfl⟩
      rw [hx, hy] at hxy
      rw [hx] at y0 z0
      rw [hy] at y1 z1
      rw [hxy] at HI'
      clear hxy hx hy
      go_upto_region 5 with (fail)
      go_region_law (refine step_sxE rgE (W := wr.drew) rfl (.tmp 12) (.tmp 24) rfl (x, y) (by simp [Act.eval, Act.put]) DD.out rfl (by omega) (by simp [Act.eval, Act.put]) ?_; intro A3 d3 w4 HD3; have B4 := HD3.out.box_ 1 rfl; have g0 := B4.cell 1; have g1 := B4.frozen 1; have g2 := B4.lt; clear B4)
      all_goals
        have D4 : Hid (Sx w (rowO rgC 101 A3 (Li ++ [(x, y)]).length d3 (Li ++ [(x, y)]) :: box K 36 #[.int .i64 0, .slice A3 (Li ++ [(x, y)]).length d3, .bool false, .int .i64 0, .int .i64 0, .int .i64 0] :: box B 36 #[.int .i64 0, .slice none 0 0, .bool false, .int .i64 0, .int .i64 0, .int .i64 0] :: p2O (some ⟨g, 0, none⟩) l.length c l :: L) (w4.setCell ⟨K, 1, none⟩ (.slice A3 (Li ++ [(x, y)]).length d3))) := Lib.hid (HD3.out.cell_ 1 rfl 1 (.slice A3 (Li ++ [(x, y)]).length d3))
        go_wp2_with fail
        go_roundw
        case rel => exact ⟨i + 1, A3, d3, Li ++ [(x, y)], by omega, by go_num, HI', by rw [show Li.length + 1 = (Li ++ [(x, y)]).length by rw [List.length_append]; rfl]; exact D4⟩
        case measure => simp [intOf]; omega
    · have hi1 : ¬ (i : Int) < (l.length : Int) := by omega
      obtain rfl : i = l.length := by omega
      obtain rfl : Li = l := by rw [HI.out, List.take_length]
      clear HI
      have D := Lib.hid (rng_as.2 D.out)
      have Bk := D.out.box_ 1 rfl
      have ck0 := Bk.cell 0
      have fk0 := Bk.frozen 0
      have ck1 := Bk.cell 1
      have fk1 := Bk.frozen 1
      have ck2 := Bk.cell 2
      have fk2 := Bk.frozen 2
      have ck3 := Bk.cell 3
      have fk3 := Bk.frozen 3
      have ck4 := Bk.cell 4
      have fk4 := Bk.frozen 4
      have ck5 := Bk.cell 5
      have fk5 := Bk.frozen 5
      have tk := Bk.lt
      clear Bk
      have Bb := D.out.box_ 2 rfl
      have cb0 := Bb.cell 0
      have fb0 := Bb.frozen 0
      have cb1 := Bb.cell 1
      have fb1 := Bb.frozen 1
      have cb2 := Bb.cell 2
      have fb2 := Bb.frozen 2
      have cb3 := Bb.cell 3
      have fb3 := Bb.frozen 3
      have cb4 := Bb.cell 4
      have fb4 := Bb.frozen 4
      have cb5 := Bb.cell 5
      have fb5 := Bb.frozen 5
      have tb := Bb.lt
      clear Bb
      go_wp2_with fail
      have D := Lib.hid ((((((D.out.cell_ 2 rfl 0 (.int .i64 0)).cell_ 2 rfl 1 (.slice A1 Li.length c1)).cell_ 2 rfl 2 (.bool false)).cell_ 2 rfl 3 (.int .i64 0)).cell_ 2 rfl 4 (.int .i64 0)).cell_ 2 rfl 5 (.int .i64 0))
      generalize (((((wr.setCell ⟨B, 0, none⟩ (.int .i64 0)).setCell ⟨B, 1, none⟩ (.slice A1 Li.length c1)).setCell ⟨B, 2, none⟩ (.bool false)).setCell ⟨B, 3, none⟩ (.int .i64 0)).setCell ⟨B, 4, none⟩ (.int .i64 0)).setCell ⟨B, 5, none⟩ (.int .i64 0) = w5 at *
      have D : Hid (Sx w (rngO A1 Li.length c1 Li :: box K 36 #[.int .i64 0, (.slice A1 Li.length c1), .bool false, .int .i64 0, .int .i64 0, .int .i64 0] :: box B 36 #[.int .i64 0, (.slice A1 Li.length c1), .bool false, .int .i64 0, .int .i64 0, .int .i64 0] :: p2O A Li.length c Li :: L) w5) := D
      have Bb := D.out.box_ 2 rfl
      have g0 := Bb.cell 0
      have g1 := Bb.cell 1
      have g2 := Bb.cell 2
      have g3 := Bb.cell 3
      have g4 := Bb.cell 4
      have g5 := Bb.cell 5
      refine bodyPost_ret (v := kV A1 Li.length c1 ⟨0, Li, false, 0, 0, 0⟩) ?_ rfl ⟨A1, c1, rfl, D.out.sel 4 [0, 3] [1, 2] (by decide)⟩
      simp [results, Tryz.f36, go_sem, g0, g1, g2, g3, g4, g5]
end Go.Proofs.YtilkgjpgoogiiaaGreat.Spa
