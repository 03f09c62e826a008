/-
  Plain mathematics of persistent congestion: pairs of lost packets, the period, what it is of rising times, of more packets, of more that was acknowledged. Nothing here speaks of a program.
-/
import Derived.Test.YtilkgjpgoogiiaaGreatLosabJ14a
import Derived.Test.YtilkgjpgoogiiaaGreatSpnabJ48a
import Derived.Test.YtilkgjpgoogiiaaGreatSpnabJ20a
import Derived.RangeFuncBox
import Derived.RangeFuncNested
set_option maxRecDepth 100000
set_option maxHeartbeats 16000000
set_option linter.unusedVariables false
set_option linter.unusedSimpArgs false
namespace Go.Proofs.YtilkgjpgoogiiaaGreat.PerM
open Cd SntM LosM
def freeB (S : Int → Bool) (a b : Int) : Bool := (List.range (b - a - 1).toNat).all fun j => !S (a + 1 + (j : Int))
theorem freeB_iff (S : Int → Bool) (a b : Int) : freeB S a b = true ↔ ∀ n, a < n → n < b → S n = false := by
  unfold freeB
  rw [List.all_eq_true]
  constructor
  · intro h n h1 h2
    have := h (n - a - 1).toNat (List.mem_range.2 (by omega))
    rw [show a + 1 + ((n - a - 1).toNat : Int) = n by omega] at this
    simpa using this
  · intro h j hj
    have hj := List.mem_range.1 hj
    rw [h (a + 1 + (j : Int)) (by omega) (by omega)]
    rfl
theorem freeB_none (a b : Int) : freeB (fun _ => false) a b = true := by rw [freeB_iff]; intros; rfl
def cntB (first : Int) (x : Pk) : Bool := x.e && decide (first < x.t)
def pairB (S : Int → Bool) (first : Int) (x y : Pk) : Bool := cntB first x && (cntB first y && (decide (x.t ≤ y.t) && freeB S x.n y.n))
theorem pairB_out {S : Int → Bool} {first : Int} {x : Pk} (h : cntB first x = false) (y : Pk) : pairB S first x y = false := by unfold pairB; rw [h]; rfl
abbrev St := Option (Int × Int × Int)
def better (s : St) (x y : Pk) : St := match s with
  | none => some (y.t - x.t, x.n, y.n)
  | some p => if p.1 < y.t - x.t then some (y.t - x.t, x.n, y.n) else some p
def tryP (S : Int → Bool) (first : Int) (x : Pk) (s : St) (y : Pk) : St := if pairB S first x y = true then better s x y else s
def inner (S : Int → Bool) (first : Int) (x : Pk) (s : St) (l : List Pk) : St := l.foldl (tryP S first x) s
def outer (S : Int → Bool) (first : Int) : St → List Pk → St
  | s, [] => s
  | s, x :: t => outer S first (inner S first x s t) t
def per (S : Int → Bool) (first : Int) (l : List Pk) : St := outer S first none l
theorem tryP_yes {S : Int → Bool} {first : Int} {x y : Pk} (h : pairB S first x y = true) (s : St) : tryP S first x s y = better s x y := if_pos h
theorem tryP_no {S : Int → Bool} {first : Int} {x y : Pk} (h : pairB S first x y = false) (s : St) : tryP S first x s y = s := if_neg (by rw [h]; decide)
theorem inner_cons (S : Int → Bool) (first : Int) (x : Pk) (s : St) (y : Pk) (l : List Pk) : inner S first x s (y :: l) = inner S first x (tryP S first x s y) l := rfl
theorem inner_out {S : Int → Bool} {first : Int} {x : Pk} {l : List Pk} (h : ∀ y ∈ l, pairB S first x y = false) (s : St) : inner S first x s l = s := by
  induction l generalizing s with
  | nil => rfl
  | cons y l ih => rw [inner_cons, tryP_no (h y (by simp))]; exact ih (fun z hz => h z (by simp [hz])) s
def ahead (S : Int → Bool) (first : Int) (l : List Pk) : Nat → St
  | 0 => none
  | i + 1 => inner S first (at_ l i) (ahead S first l i) (l.drop (i + 1))
theorem outer_drop (S : Int → Bool) (first : Int) (l : List Pk) : ∀ (k i : Nat), i + k = l.length → outer S first (ahead S first l i) (l.drop i) = ahead S first l l.length := by
  intro k
  induction k with
  | zero =>
    intro i h
    obtain rfl : i = l.length := by omega
    rw [List.drop_length]; rfl
  | succ k ih =>
    intro i h
    have hi : i < l.length := by omega
    rw [← List.getElem_cons_drop hi]
    show outer S first (inner S first l[i] (ahead S first l i) (l.drop (i + 1))) (l.drop (i + 1)) = _
    rw [← at_of hi]
    exact ih (i + 1) (by omega)
theorem per_ahead (S : Int → Bool) (first : Int) (l : List Pk) : per S first l = ahead S first l l.length := outer_drop S first l l.length 0 (by omega)
/-! What the period is: the greatest one of all pairs. -/
/-! P10.4. -/
/-! P10.5: of rising times. -/
end Go.Proofs.YtilkgjpgoogiiaaGreat.PerM
namespace Go.Proofs.YtilkgjpgoogiiaaGreat.PerM
open SpnM
def meets (a b : Int) (r : R) : Bool := decide (max r.1 (a + 1) ≤ min r.2 (b - 1))
theorem free_has (l : List R) (a b : Int) (hl : ∀ r ∈ l, r.1 ≤ r.2) : freeB (has l) a b = !(l.any (meets a b)) := by
  rw [Bool.eq_iff_iff, freeB_iff]
  constructor
  · intro h
    cases hm : l.any (meets a b) with
    | false => rfl
    | true =>
      obtain ⟨r, hr, hd⟩ := List.any_eq_true.1 hm
      have hd := of_decide_eq_true hd
      have h1 := h (max r.1 (a + 1)) (by omega) (by omega)
      have h2 : has l (max r.1 (a + 1)) = true := List.any_eq_true.2 ⟨r, hr, decide_eq_true (by omega)⟩
      rw [h2] at h1
      cases h1
  · intro h n h1 h2
    cases hn : has l n with
    | false => rfl
    | true =>
      obtain ⟨r, hr, hd⟩ := List.any_eq_true.1 hn
      have hd := of_decide_eq_true hd
      have h3 : l.any (meets a b) = true := List.any_eq_true.2 ⟨r, hr, decide_eq_true (by omega)⟩
      rw [h3] at h
      cases h
theorem free_rev (l : List R) (a b : Int) (hl : ∀ r ∈ l, r.1 ≤ r.2) : freeB (has l) a b = !(l.reverse.any (meets a b)) := by rw [free_has l a b hl, List.any_reverse]
end Go.Proofs.YtilkgjpgoogiiaaGreat.PerM
namespace Go.Proofs.YtilkgjpgoogiiaaGreat.PerM
open Cd SntM LosM
open SpnM (R Rises has)
def reachL (n : Int) : Int → List R → Int
  | last, [] => last
  | last, r :: t => if r.2 ≤ n then last else reachL n (max r.1 (n + 1)) t
def reach (rs : List R) (n : Int) : Int := reachL n 9007199254740991 rs
def Falls (l : List R) : Prop := (∀ r ∈ l, r.1 ≤ r.2) ∧ l.Pairwise (fun r s => s.2 < r.1)
theorem falls_rev {l : List R} (h : Rises l) : Falls l.reverse := by
  refine ⟨fun r hr => (h.1 r (by simpa using hr)).2.1, ?_⟩
  rw [List.pairwise_reverse]
  exact h.2.imp (fun {a b} h => by omega)
theorem reachL_le (n y : Int) : ∀ (rs : List R) (last : Int), Falls rs → (∀ r ∈ rs, max r.1 (n + 1) ≤ last) → (y ≤ reachL n last rs ↔ y ≤ last ∧ ∀ r ∈ rs, n < r.2 → y ≤ max r.1 (n + 1)) := by
  intro rs
  induction rs with
  | nil => intro last _ _; simp [reachL]
  | cons r t ih =>
    intro last hf hb
    have hp := List.pairwise_cons.1 hf.2
    have hr := hf.1 r (by simp)
    have hl := hb r (by simp)
    unfold reachL
    by_cases h : r.2 ≤ n
    · rw [if_pos h]
      constructor
      · intro hy
        refine ⟨hy, fun s hs hn => ?_⟩
        rcases List.mem_cons.1 hs with rfl | hs
        · omega
        · have := hp.1 s hs; omega
      · exact fun hy => hy.1
    · rw [if_neg h, ih (max r.1 (n + 1)) ⟨fun s hs => hf.1 s (by simp [hs]), hp.2⟩ (fun s hs => by have := hp.1 s hs; have := hf.1 s (by simp [hs]); omega)]
      constructor
      · rintro ⟨h1, h2⟩
        refine ⟨by omega, fun s hs hn => ?_⟩
        rcases List.mem_cons.1 hs with rfl | hs
        · exact h1
        · exact h2 s hs hn
      · rintro ⟨h1, h2⟩
        exact ⟨h2 r (by simp) (by omega), fun s hs hn => h2 s (by simp [hs]) hn⟩
theorem reach_free {L : List R} (hL : Rises L) {n y : Int} (hn : n < 9007199254740991) (hy : y ≤ 9007199254740991) : freeB (has L) n y = decide (y ≤ reach L.reverse n) := by
  rw [free_has L n y (fun r hr => (hL.1 r hr).2.1), Bool.eq_iff_iff]
  unfold reach
  rw [decide_eq_true_iff, reachL_le n y L.reverse 9007199254740991 (falls_rev hL) (fun r hr => by
    have := hL.1 r (by simpa using hr); unfold SpnM.M at this; omega)]
  constructor
  · intro h
    refine ⟨hy, fun r hr hn => ?_⟩
    have hr' : r ∈ L := by simpa using hr
    have h1 := hL.1 r hr'
    cases hm : L.any (meets n y) with
    | true => rw [hm] at h; cases h
    | false =>
      have h2 : meets n y r = false := by
        rw [List.any_eq_false] at hm
        have := hm r hr'; simpa using this
      unfold meets at h2
      have h2 := of_decide_eq_false h2
      omega
  · rintro ⟨_, h⟩
    cases hm : L.any (meets n y) with
    | false => rfl
    | true =>
      obtain ⟨r, hr, hd⟩ := List.any_eq_true.1 hm
      unfold meets at hd
      have hd := of_decide_eq_true hd
      have := h r (by simpa using hr) (by omega)
      omega
def innerL (x : Pk) (last : Int) : List Pk → List (Pk × Pk)
  | [] => []
  | y :: t => if last < y.n then [] else if x.t ≤ y.t then (x, y) :: innerL x last t else innerL x last t
def pairsL (rs : List R) : List Pk → List (Pk × Pk)
  | [] => []
  | x :: t => innerL x (reach rs x.n) t ++ pairsL rs t
def betterP (s : St) (p : Pk × Pk) : St := better s p.1 p.2
def foldB (ps : List (Pk × Pk)) : St := ps.foldl betterP none
theorem foldB_snoc (ps : List (Pk × Pk)) (p : Pk × Pk) : foldB (ps ++ [p]) = better (foldB ps) p.1 p.2 := by unfold foldB; rw [List.foldl_append]; rfl
theorem inner_fold {L : List R} (hL : Rises L) {first : Int} {x : Pk} (hx : cntB first x = true) (hxn : x.n < 9007199254740991) : ∀ (l : List Pk) (s : St), l.Pairwise (fun a b => a.n < b.n) → (∀ y ∈ l, y.n ≤ 9007199254740991) →
    (innerL x (reach L.reverse x.n) (l.filter (cntB first))).foldl betterP s = inner (has L) first x s l := by
  intro l
  induction l with
  | nil => intro s _ _; rfl
  | cons y t ih =>
    intro s hr hb
    have hr' := List.pairwise_cons.1 hr
    have hy := hb y (by simp)
    have hf := reach_free hL hxn hy
    have ih' := fun s => ih s hr'.2 (fun z hz => hb z (by simp [hz]))
    rw [List.filter_cons, inner_cons]
    cases hc : cntB first y with
    | false =>
      have hp : pairB (has L) first x y = false := by unfold pairB; rw [hx, hc]; rfl
      rw [tryP_no hp]
      simp only [Bool.false_eq_true, if_false]
      exact ih' s
    | true =>
      simp only [if_true]
      unfold innerL
      by_cases hl : reach L.reverse x.n < y.n
      · rw [if_pos hl]
        have hfb : freeB (has L) x.n y.n = false := by rw [hf]; exact decide_eq_false (by omega)
        have hp : pairB (has L) first x y = false := by unfold pairB; rw [hfb]; simp
        rw [tryP_no hp]
        refine (inner_out (fun z hz => ?_) s).symm
        have hz1 := hr'.1 z hz
        have hfz := reach_free hL hxn (hb z (by simp [hz]))
        have : freeB (has L) x.n z.n = false := by rw [hfz]; exact decide_eq_false (by omega)
        unfold pairB; rw [this]; simp
      · rw [if_neg hl]
        have hfb : freeB (has L) x.n y.n = true := by rw [hf]; exact decide_eq_true (by omega)
        by_cases ht : x.t ≤ y.t
        · have hp : pairB (has L) first x y = true := by unfold pairB; rw [hx, hc, hfb, decide_eq_true ht]; rfl
          rw [if_pos ht, tryP_yes hp]
          exact ih' _
        · have hp : pairB (has L) first x y = false := by unfold pairB; rw [decide_eq_false ht]; simp
          rw [if_neg ht, tryP_no hp]
          exact ih' s
theorem fold_pairs {L : List R} (hL : Rises L) {first : Int} : ∀ (l : List Pk) (s : St), l.Pairwise (fun a b => a.n < b.n) → (∀ y ∈ l, y.n ≤ 9007199254740991) →
    (pairsL L.reverse (l.filter (cntB first))).foldl betterP s = outer (has L) first s l := by
  intro l
  induction l with
  | nil => intro s _ _; rfl
  | cons x t ih =>
    intro s hr hb
    have hr' := List.pairwise_cons.1 hr
    have ih' := fun s => ih s hr'.2 (fun z hz => hb z (by simp [hz]))
    rw [List.filter_cons]
    show _ = outer (has L) first (inner (has L) first x s t) t
    cases hc : cntB first x with
    | false =>
      simp only [Bool.false_eq_true, if_false]
      rw [inner_out (fun y _ => pairB_out hc y)]
      exact ih' s
    | true =>
      simp only [if_true]
      show (innerL x (reach L.reverse x.n) (t.filter (cntB first)) ++ pairsL L.reverse (t.filter (cntB first))).foldl betterP s = _
      rw [List.foldl_append]
      by_cases hxn : x.n < 9007199254740991
      · rw [inner_fold hL hc hxn t s hr'.2 (fun z hz => hb z (by simp [hz]))]
        exact ih' _
      · have ht : t = [] := by
          cases t with
          | nil => rfl
          | cons z u => have := hr'.1 z (by simp); have := hb z (by simp); omega
        subst ht; rfl
theorem fold_per {L : List R} (hL : Rises L) (first : Int) {l : List Pk} (hr : l.Pairwise (fun a b => a.n < b.n)) (hb : ∀ y ∈ l, y.n ≤ 9007199254740991) : foldB (pairsL L.reverse (l.filter (cntB first))) = per (has L) first l := fold_pairs hL l none hr hb
/-! What is answered: a period, two numbers, whether there is one. -/
def p1 (s : St) : Int := match s with | none => 0 | some p => p.1
def p2 (s : St) : Int := match s with | none => 0 | some p => p.2.1
def p3 (s : St) : Int := match s with | none => 0 | some p => p.2.2
def perOf (S : Int → Bool) (l : List Pk) (first : Int) : St := if chkL l = 0 then (if 0 ≤ first ∧ first ≤ 9007199254740991 then per S first l else none) else none
end Go.Proofs.YtilkgjpgoogiiaaGreat.PerM
namespace Go.Proofs.YtilkgjpgoogiiaaGreat.Per
open Go.RowKit SntM Cd Wd LosM PerM
open SpnM (R)
open Spn (Row)
open Snt (pkC pkV pkA PRow)
open Los (Src wpList_push)
def GInt (n : Int) (w : World) (e : Ending) (w' : World) : Prop := e = .returned (.int .i64 n) ∧ Kept w w'
theorem drop_at {l : List R} {k : Nat} (h : k < l.length) : l.drop k = SpnM.at_ l k :: l.drop (k + 1) := by rw [SpnM.at_of h, List.drop_eq_getElem_cons h]
theorem pdrop_at {l : List Pk} {k : Nat} (h : k < l.length) : l.drop k = at_ l k :: l.drop (k + 1) := by rw [at_of h, List.drop_eq_getElem_cons h]
theorem reach_any (A : Option Addr) (n c : Nat) (rs : List R) (m : Int) (w : World) (h : Row w A n c rs) (hm : 0 ≤ m ∧ m ≤ 9007199254740991) :
    Calls Tryz.prog 190 #[.slice A n c, .int .i64 m] w (GInt (reach rs m) w) := by
  obtain ⟨X, hX⟩ : ∃ X, reach rs m = X := ⟨_, rfl⟩
  rw [hX]
  have HX : Hid (reachL m 9007199254740991 rs = X) := Lib.hid hX
  have hcap := h.cap
  unfold maxLen at hcap
  have H := Lib.hid h
  have HL := Lib.hid h.len
  clear h hX
  go_enter Tryz.func190, Tryz.ntmps190
  go_wp2_with fail
  go_loopw [5, 10] (fun s5 s10 wr => ∃ (i : Nat) (last : Int), i ≤ n ∧ s5 = .int .i64 last ∧ s10 = .int .i64 i ∧ Hid (reachL m last (rs.drop i) = X) ∧ Hid (Kept w wr)) (fun _ s10 _ => n - (intOf s10).toNat)
  case atStart => exact ⟨0, _, Nat.zero_le _, rfl, rfl, HX, Lib.hid (Kept.refl w)⟩
  case round =>
    obtain ⟨i, last, hi, rfl, rfl, hx, hk⟩ := hrel
    by_cases hlt : i < n
    · have R := H.out.kept hk.out
      obtain ⟨g, rfl, hg⟩ := R.some_ (by omega)
      have c1 := R.lo hlt
      have c2 := R.hi hlt
      have hd : Hid (rs.drop i = SpnM.at_ rs i :: rs.drop (i + 1)) := Lib.hid (drop_at (by rw [HL.out]; exact hlt))
      have hi0 : (0 : Int) ≤ (i : Int) := by omega
      have hi1 : (i : Int) < (n : Int) := by omega
      have hw1 : IntKind.i64.wrap ((i : Int) + 1) = (i : Int) + 1 := IntWalk.i64_in _ (by omega)
      have hw2 : IntKind.i64.wrap (m + 1) = m + 1 := IntWalk.i64_in _ (by omega)
      have hka := Lib.hid (hk.out.alloc (.cells #[.int .i64 (SpnM.at_ rs i).1, .int .i64 (SpnM.at_ rs i).2] 101))
      clear R
      obtain ⟨x, hxx⟩ : ∃ x, SpnM.at_ rs i = x := ⟨_, rfl⟩
      rw [hxx] at c1 c2 hd hka
      clear hxx
      obtain ⟨a, b⟩ := x
      simp only at c1 c2 hka
      by_cases hle : b ≤ m
      · have hz : Hid (last = X) := by
          show last = X
          rw [← hx.out, hd.out]
          unfold reachL
          rw [if_pos hle]
        go_wp2_with fail
        go_ret
        exact ⟨ret_int hz.out, hka.out⟩
      · have hz : Hid (reachL m (max a (m + 1)) (rs.drop (i + 1)) = X) := by
          show _ = X
          rw [← hx.out, hd.out]
          conv => rhs; unfold reachL
          rw [if_neg hle]
        go_wp2_with fail
        go_roundw
        case rel => exact ⟨i + 1, _, by omega, rfl, by go_num, hz, hka⟩
        case measure => simp [intOf]; omega
    · obtain rfl : i = n := by omega
      have hz : Hid (last = X) := by
        show last = X
        rw [← hx.out, ← HL.out, List.drop_length]
        rfl
      go_wp2_with fail
      go_ret
      exact ⟨ret_int hz.out, hk.out⟩
theorem cnt_yes {first : Int} {x : Pk} (h : cntB first x = true) (L : List Pk) : (L ++ [x]).filter (cntB first) = L.filter (cntB first) ++ [x] := by rw [List.filter_append]; simp [h]
theorem cnt_no {first : Int} {x : Pk} (h : cntB first x = false) (L : List Pk) : (L ++ [x]).filter (cntB first) = L.filter (cntB first) := by rw [List.filter_append]; simp [h]
def GivesP (l : List Pk) (w : World) (e : Ending) (w' : World) : Prop := ∃ v, e = .returned v ∧ Lay pkC 32 w w.heap.size w' v l
theorem counting_any (A : Option Addr) (n c : Nat) (l : List Pk) (first : Int) (w : World) (h : Src w A n c l) (hn : n ≤ 256) :
    Calls Tryz.prog 162 #[.slice A n c, .int .i64 first] w (GivesP (l.filter (cntB first)) w) := by
  have H := Lib.hid h
  have HL := Lib.hid h.len
  clear h
  go_enter Tryz.func162, Tryz.ntmps162
  go_wp2_with fail
  go_loopw [5, 10] (fun s5 s10 wr => ∃ i : Nat, i ≤ n ∧ s10 = .int .i64 i ∧ Hid (Lay pkC 32 w w.heap.size wr s5 ((l.take i).filter (cntB first)))) (fun _ s10 _ => n - (intOf s10).toNat)
  case atStart => exact ⟨0, Nat.zero_le _, rfl, Lib.hid (Lay.nil w _ (Kept.refl w))⟩
  case round =>
    obtain ⟨i, hi, rfl, ht⟩ := hrel
    have hkw : Hid (Kept w wr) := by obtain ⟨_, _, _, _, _, k⟩ := ht.out; exact Lib.hid k
    by_cases hlt : i < n
    · have R := H.out.kept hkw.out
      obtain ⟨b, o, rfl, hb⟩ := R.some_ (by omega)
      obtain ⟨a0, a1, a2, a3, a4, a5⟩ := R.cells hlt
      have hi0 : (0 : Int) ≤ (i : Int) := by omega
      have hi1 : (i : Int) < (n : Int) := by omega
      have hw1 : IntKind.i64.wrap ((i : Int) + 1) = (i : Int) + 1 := IntWalk.i64_in _ (by omega)
      clear R
      have HT := Lib.hid (take_succ (l := l) (k := i) (by rw [HL.out]; exact hlt))
      have hll : Hid (((l.take i).filter (cntB first)).length ≤ 256) := by
        have h1 := List.length_filter_le (cntB first) (l.take i)
        rw [List.length_take] at h1
        exact Lib.hid (by omega)
      obtain ⟨p, hp⟩ : ∃ p, at_ l i = p := ⟨_, rfl⟩
      rw [hp] at a0 a1 a2 a3 a4 a5 HT
      clear hp
      obtain ⟨pn, pt, ps, pe, pf, pc⟩ := p
      simp only at a0 a1 a2 a3 a4 a5
      have ka := (Kept.refl wr).alloc (.cells #[.int .i64 pn, .int .i64 pt, .int .i64 ps, .bool pe, .bool pf, .bool pc] 32)
      have T5 := Lib.hid (ht.out.more ka)
      have hz : w.heap.size ≤ (wr.alloc (.cells #[.int .i64 pn, .int .i64 pt, .int .i64 ps, .bool pe, .bool pf, .bool pc] 32)).heap.size := Nat.le_trans hkw.out.size ka.size
      clear ka
      cases pe with
      | false =>
        have e1 := Lib.hid (cnt_no (first := first) (x := ⟨pn, pt, ps, false, pf, pc⟩) (by unfold cntB; rfl) (l.take i))
        go_wp2_with fail
        go_roundw
        case rel =>
          refine ⟨i + 1, by omega, by go_num, ?_⟩
          rw [HT.out, e1.out]; exact T5
        case measure => simp [intOf]; omega
      | true =>
        by_cases hg : first < pt
        · have e1 := Lib.hid (cnt_yes (first := first) (x := ⟨pn, pt, ps, true, pf, pc⟩) (by unfold cntB; simp only; rw [decide_eq_true hg]; rfl) (l.take i))
          have hd : decide (first < pt) = true := decide_eq_true hg
          have B := Blk.new wr 32 #[.int .i64 pn, .int .i64 pt, .int .i64 ps, .bool true, .bool pf, .bool pc]
          go_upto_region 6 with (fail)
          generalize hq : wr.heap.size = q at *
          generalize wr.alloc (.cells #[.int .i64 pn, .int .i64 pt, .int .i64 ps, .bool true, .bool pf, .bool pc] 32) = w5 at *
          have b0 := B.cell 0
          have b1 := B.cell 1
          have b2 := B.cell 2
          have b3 := B.cell 3
          have b4 := B.cell 4
          have b5 := B.cell 5
          clear B hq
          go_wp2_with (at_builtin; refine wpList_push (w := w) (W := w5) rfl (.tmp 22) (.tmp 24) rfl (b := w.heap.size) ⟨pn, pt, ps, true, pf, pc⟩ rfl T5.out rfl (Nat.le_refl _) hz (by have := hll.out; omega) rfl ?_; intro v' w6 HV6 hg ho; clear hg ho)
          go_roundw
          case rel =>
            refine ⟨i + 1, by omega, by go_num, ?_⟩
            rw [HT.out, e1.out]; exact HV6
          case measure => simp [intOf]; omega
        · have e1 := Lib.hid (cnt_no (first := first) (x := ⟨pn, pt, ps, true, pf, pc⟩) (by unfold cntB; simp only; rw [decide_eq_false hg]; rfl) (l.take i))
          have hd : decide (first < pt) = false := decide_eq_false hg
          go_wp2_with fail
          go_roundw
          case rel =>
            refine ⟨i + 1, by omega, by go_num, ?_⟩
            rw [HT.out, e1.out]; exact T5
          case measure => simp [intOf]; omega
    · obtain rfl : i = n := by omega
      have e : l.take i = l := List.take_of_length_le (by rw [HL.out]; omega)
      rw [e] at ht
      go_wp2_with fail
      go_ret
      exact ⟨_, rfl, ht.out⟩
end Go.Proofs.YtilkgjpgoogiiaaGreat.Per
namespace Go.Proofs.YtilkgjpgoogiiaaGreat.Per
open Go.RowKit SntM Cd Wd LosM PerM
open Snt (pkC pkV pkA PRow)
structure KSt (W : World) (b : Nat) (s : St) : Prop where
  per : Boxed W b 3 (.int .i64 (p1 s))
  from_ : Boxed W (b + 1) 3 (.int .i64 (p2 s))
  to_ : Boxed W (b + 2) 3 (.int .i64 (p3 s))
  is : Boxed W (b + 3) 4 (.bool s.isSome)
def Four (b k : Nat) : Prop := b ≤ k ∧ k < b + 4
theorem KSt.but {W W' : World} {b : Nat} {s : St} {F : Nat → Prop} (h : KSt W b s) (k : But F W W') (hF : ∀ i, F i → ¬ Four b i) : KSt W' b s :=
  ⟨(k.block b h.per.lt (fun f => hF _ f ⟨by omega, by omega⟩)).trans h.per, (k.block _ h.from_.lt (fun f => hF _ f ⟨by omega, by omega⟩)).trans h.from_,
   (k.block _ h.to_.lt (fun f => hF _ f ⟨by omega, by omega⟩)).trans h.to_, (k.block _ h.is.lt (fun f => hF _ f ⟨by omega, by omega⟩)).trans h.is⟩
theorem KSt.kept {W W' : World} {b : Nat} {s : St} (h : KSt W b s) (k : Kept W W') : KSt W' b s := h.but (k.but (fun _ => False)) (fun _ f => f.elim)
theorem better_yes {p : Int × Int × Int} {x y : Pk} (h : p.1 < y.t - x.t) : better (some p) x y = some (y.t - x.t, x.n, y.n) := if_pos h
theorem better_no {p : Int × Int × Int} {x y : Pk} (h : ¬ p.1 < y.t - x.t) : better (some p) x y = some p := if_neg h
def Keeps (b : Nat) (s : St) (w : World) (e : Ending) (w' : World) : Prop := e = .returned (.tuple #[]) ∧ KSt w' b s ∧ But (Four b) w w'
theorem four_set {W : World} {b : Nat} {s : St} (h : KSt W b s) (p : Int × Int × Int) :
    KSt ((((W.setCell ⟨b, 0, none⟩ (.int .i64 p.1)).setCell ⟨b + 1, 0, none⟩ (.int .i64 p.2.1)).setCell ⟨b + 2, 0, none⟩ (.int .i64 p.2.2)).setCell ⟨b + 3, 0, none⟩ (.bool true)) b (some p) :=
  ⟨(((h.per.set _).other (by omega) _).other (by omega) _).other (by omega) _, (((h.from_.other (by omega) _).set _).other (by omega) _).other (by omega) _,
   (((h.to_.other (by omega) _).other (by omega) _).set _).other (by omega) _, (((h.is.other (by omega) _).other (by omega) _).other (by omega) _).set _⟩
theorem four_but {w W : World} {b : Nat} (h : Kept w W) (v1 v2 v3 v4 : Value) :
    But (Four b) w ((((W.setCell ⟨b, 0, none⟩ v1).setCell ⟨b + 1, 0, none⟩ v2).setCell ⟨b + 2, 0, none⟩ v3).setCell ⟨b + 3, 0, none⟩ v4) :=
  ((((h.but (Four b)).setCell (p := ⟨b, 0, none⟩) ⟨Nat.le_refl _, by show b < _; omega⟩ _).setCell (p := ⟨b + 1, 0, none⟩) ⟨by show b ≤ b + 1; omega, by show b + 1 < _; omega⟩ _).setCell (p := ⟨b + 2, 0, none⟩) ⟨by show b ≤ b + 2; omega, by show b + 2 < _; omega⟩ _).setCell (p := ⟨b + 3, 0, none⟩) ⟨by show b ≤ b + 3; omega, by show b + 3 < _; omega⟩ _
theorem keep_any (x y : Pk) (b : Nat) (s : St) (w : World) (h : KSt w b s) (hx : 0 ≤ x.t ∧ x.t ≤ 9007199254740991) (hy : 0 ≤ y.t ∧ y.t ≤ 9007199254740991) :
    Calls Tryz.prog 160 #[.agg #[.int .i64 x.n, .int .i64 x.t, .int .i64 x.s, .bool x.e, .bool x.f, .bool x.c], .agg #[.int .i64 y.n, .int .i64 y.t, .int .i64 y.s, .bool y.e, .bool y.f, .bool y.c], .pointer (some ⟨b + 3, 0, none⟩), .pointer (some ⟨b, 0, none⟩), .pointer (some ⟨b + 1, 0, none⟩), .pointer (some ⟨b + 2, 0, none⟩)] w (Keeps b (better s x y) w) := by
  obtain ⟨xn, xt, xs, xe, xf, xc⟩ := x
  obtain ⟨yn, yt, ys, ye, yf, yc⟩ := y
  simp only at hx hy ⊢
  have hw : IntKind.i64.wrap (yt - xt) = yt - xt := IntWalk.i64_in _ (by omega)
  have K1 := (Kept.refl w).alloc (.cells #[.int .i64 xn, .int .i64 xt, .int .i64 xs, .bool xe, .bool xf, .bool xc] 32)
  have K2 := Lib.hid (K1.alloc (.cells #[.int .i64 yn, .int .i64 yt, .int .i64 ys, .bool ye, .bool yf, .bool yc] 32))
  have B1 := Lib.hid ((Blk.new w 32 #[.int .i64 xn, .int .i64 xt, .int .i64 xs, .bool xe, .bool xf, .bool xc]).kept ((Kept.refl _).alloc (.cells #[.int .i64 yn, .int .i64 yt, .int .i64 ys, .bool ye, .bool yf, .bool yc] 32)))
  have B2 : Hid (Blk _ (w.heap.size + 1) _ _) := Lib.hid (by have := Blk.new (w.alloc (.cells #[.int .i64 xn, .int .i64 xt, .int .i64 xs, .bool xe, .bool xf, .bool xc] 32)) 32 #[.int .i64 yn, .int .i64 yt, .int .i64 ys, .bool ye, .bool yf, .bool yc]; rwa [World.size_alloc] at this)
  have H := Lib.hid (h.kept K2.out)
  have hbq : b + 3 < w.heap.size := h.is.lt
  clear K1 h
  go_enter Tryz.func160, Tryz.ntmps160
  go_upto_region 1 with (fail)
  generalize hq : w.heap.size = q at *
  generalize (w.alloc (.cells #[.int .i64 xn, .int .i64 xt, .int .i64 xs, .bool xe, .bool xf, .bool xc] 32)).alloc (.cells #[.int .i64 yn, .int .i64 yt, .int .i64 ys, .bool ye, .bool yf, .bool yc] 32) = W at *
  clear hq
  have x0 := B1.out.cell 0
  have x1 := B1.out.cell 1
  have y0 := B2.out.cell 0
  have y1 := B2.out.cell 1
  have c0 := H.out.per.cell
  have c1 := H.out.from_.cell
  have c2 := H.out.to_.cell
  have c3 := H.out.is.cell
  have f0 := H.out.per.frozen
  have f1 := H.out.from_.frozen
  have f2 := H.out.to_.frozen
  have f3 := H.out.is.frozen
  cases s with
  | none =>
    have HS := Lib.hid ((four_set H.out (yt - xt, xn, yn)).kept (Kept.refl _).drew)
    have HB := Lib.hid (four_but (b := b) K2.out (.int .i64 (yt - xt)) (.int .i64 xn) (.int .i64 yn) (.bool true)).drew
    simp only [Option.isSome] at c3
    go_wp2_with fail
    go_region
    all_goals
      go_wp2_with fail
      go_end0
      exact ⟨rfl, HS.out, HB.out⟩
  | some p =>
    obtain ⟨a, m, n⟩ := p
    simp only [p1, p2, p3, Option.isSome] at c0 c1 c2 c3
    by_cases hlt : a < yt - xt
    · have HS := Lib.hid ((four_set H.out (yt - xt, xn, yn)).kept (Kept.refl _).drew)
      have HB := Lib.hid (four_but (b := b) K2.out (.int .i64 (yt - xt)) (.int .i64 xn) (.int .i64 yn) (.bool true)).drew
      have hd : decide (a < yt - xt) = true := decide_eq_true hlt
      have he := Lib.hid (better_yes (p := (a, m, n)) (x := ⟨xn, xt, xs, xe, xf, xc⟩) (y := ⟨yn, yt, ys, ye, yf, yc⟩) hlt)
      go_wp2_with fail
      go_region
      all_goals
        go_wp2_with fail
        go_end0
        exact ⟨rfl, by rw [he.out]; exact HS.out, HB.out⟩
    · have hd : decide (a < yt - xt) = false := decide_eq_false hlt
      have he := Lib.hid (better_no (p := (a, m, n)) (x := ⟨xn, xt, xs, xe, xf, xc⟩) (y := ⟨yn, yt, ys, ye, yf, yc⟩) hlt)
      have HB := Lib.hid (K2.out.but (Four b))
      go_wp2_with fail
      go_end0
      exact ⟨rfl, by rw [he.out]; exact H.out, HB.out⟩
end Go.Proofs.YtilkgjpgoogiiaaGreat.Per
namespace Go.Proofs.YtilkgjpgoogiiaaGreat.Per
open Go.RowKit SntM Cd Wd LosM PerM
open SpnM (R)
open Spn (Row)
open Snt (pkC pkV pkA PRow)
open Los (Src cutA run_fromP)
attribute [local go_sem] Oper.semAt_some
def Kps (b : Nat) (A B : World) : Prop := A.heap.size ≤ B.heap.size ∧ ∀ k, ¬ Four b k → ∀ cs t fr, A.heap[k]? = some (.cells cs t fr) → B.heap[k]? = some (.cells cs t fr)
section
variable {b : Nat} {A B C W : World}
theorem Kps.refl (b : Nat) (W : World) : Kps b W W := ⟨Nat.le_refl _, fun _ _ _ _ _ h => h⟩
theorem Kps.trans (h : Kps b A B) (k : Kps b B C) : Kps b A C := ⟨Nat.le_trans h.1 k.1, fun i hi cs t fr hc => k.2 i hi cs t fr (h.2 i hi cs t fr hc)⟩
theorem Kps.put {l : Nat} {o : Obj} (o' : Obj) (h : W.heap[l]? = some o) (hc : o.isCells = false) : Kps b W (W.putObj l o') :=
  ⟨by have := (grownBy_putObj' W l o').size; exact this, fun k _ cs t fr hk => by
    refine (World.putObj_heap_other (fun e => ?_)).trans hk
    subst e
    rw [h] at hk
    cases hk; cases hc⟩
theorem Kps.of_but (h : But (Four b) A B) : Kps b A B := ⟨h.size, fun k hk cs t fr hc => (h.block k (Array.getElem?_eq_some_iff.1 hc).1 hk).trans hc⟩
theorem Kps.blk {g : Nat} {t : TypeId} {cs : Array Value} (h : Kps b A B) (hb : Blk A g t cs) (hg : ¬ Four b g) : Blk B g t cs := h.2 g hg cs t _ hb
end
structure Hold (w : World) (bl br : Nat) (A A2 : Option Addr) (m c m2 c2 : Nat) (l : List Pk) (rs : List R) : Prop where
  cl : Blk w bl 42 #[.slice A m c]
  cr : Blk w br 33 #[.slice A2 m2 c2]
  l : PRow w A m c l
  r : Row w A2 m2 c2 rs
structure Far (b bl br : Nat) (A A2 : Option Addr) : Prop where
  l : b + 4 ≤ bl
  r : b + 4 ≤ br
  a : ∀ k, Cd.own A = some k → b + 4 ≤ k
  a2 : ∀ k, Spn.own A2 = some k → b + 4 ≤ k
section
variable {w w' : World} {b bl br m c m2 c2 : Nat} {A A2 : Option Addr} {l : List Pk} {rs : List R}
theorem Hold.kept (h : Hold w bl br A A2 m c m2 c2 l rs) (k : Kept w w') : Hold w' bl br A A2 m c m2 c2 l rs := ⟨h.cl.kept k, h.cr.kept k, h.l.kept k, h.r.kept k⟩
theorem not_four {b k : Nat} (h : b + 4 ≤ k) : ¬ Four b k := fun f => by have := f.2; omega
theorem Hold.kps (h : Hold w bl br A A2 m c m2 c2 l rs) (k : Kps b w w') (f : Far b bl br A A2) : Hold w' bl br A A2 m c m2 c2 l rs := by
  refine ⟨k.blk h.cl (not_four f.l), k.blk h.cr (not_four f.r), h.l.same_ fun i e => ?_, h.r.same_ fun i e => ?_⟩
  · rcases h.l.form with ⟨rfl, _⟩ | ⟨g, cur, rfl, hb, _⟩
    · cases e
    · cases e
      exact (k.blk hb (not_four (f.a _ rfl))).trans (Eq.symm hb)
  · rcases h.r.form with ⟨rfl, _⟩ | ⟨g, cur, rfl, hb, _⟩
    · cases e
    · cases e
      exact (k.blk hb (not_four (f.a2 _ rfl))).trans (Eq.symm hb)
end
abbrev PP := { x : Pk × Pk // (0 ≤ x.1.t ∧ x.1.t ≤ 9007199254740991) ∧ 0 ≤ x.2.t ∧ x.2.t ≤ 9007199254740991 }
def encp (x : PP) : Array Value := #[pkV x.1.1, pkV x.1.2]
theorem inner_go {x y : Pk} {last : Int} (t : List Pk) (h : ¬ last < y.n) (h2 : x.t ≤ y.t) : innerL x last (y :: t) = (x, y) :: innerL x last t := by
  conv => lhs; unfold innerL
  rw [if_neg h, if_pos h2]
theorem inner_skip {x y : Pk} {last : Int} (t : List Pk) (h : ¬ last < y.n) (h2 : ¬ x.t ≤ y.t) : innerL x last (y :: t) = innerL x last t := by
  conv => lhs; unfold innerL
  rw [if_neg h, if_neg h2]
theorem inner_end {x y : Pk} {last : Int} (t : List Pk) (h : last < y.n) : innerL x last (y :: t) = [] := by
  conv => lhs; unfold innerL
  rw [if_pos h]
def Done (J : List PP → World → Prop) (all rest : List (Pk × Pk)) (w : World) : Prop := ∃ pre : List PP, pre.map (·.1) ++ rest = all ∧ J pre w
theorem Done.grown {B : Nat} {J : List PP → World → Prop} {all rest : List (Pk × Pk)} {w w' : World} (h : Done J all rest w) (hJ : AbidesFrom B J) (k : Kept w w') : Done J all rest w' := by
  obtain ⟨pre, h1, h2⟩ := h
  exact ⟨pre, h1, hJ _ _ _ none h2 ⟨Below.os k, Below.tape k, Below.output k, k.size, fun i hi _ => k.at_ hi⟩ (fun r e => by cases e)⟩
theorem pairs1_in (n : Nat) (hn : 2 ≤ n) (ly b bl br m c m2 c2 : Nat) (A A2 : Option Addr) (l : List Pk) (rs : List R) (J Jx : List PP → World → Prop) (W : World) (hJ : AbidesFrom W.heap.size J)
    (hY : ∀ pre x W1, J pre W1 → pre.length < (pairsL rs l).length → YieldAt Fence.wide (n - 1) Tryz.prog ly (encp x) W1 fun e W' =>
      (e = .returned (.bool true) ∧ J (pre ++ [x]) W' ∧ Kps b W1 W') ∨ (e = .returned (.bool false) ∧ Jx (pre ++ [x]) W'))
    (hH : Hold W bl br A A2 m c m2 c2 l rs) (hF : Far b bl br A A2) (hm : m ≤ 256) (hv : ∀ p ∈ l, (0 ≤ p.n ∧ p.n ≤ 9007199254740991) ∧ 0 ≤ p.t ∧ p.t ≤ 9007199254740991) (h0 : J [] W) :
    CallsIn Fence.wide n Tryz.prog 189 #[.func (.yield ly) #[] #[], .pointer (some ⟨bl, 0, none⟩), .pointer (some ⟨br, 0, none⟩)] W fun e W' => (∃ v, e = .returned v) ∧
      ((∃ ys, ys.map (·.1) = pairsL rs l ∧ J ys W') ∨ (∃ pre, True ∧ Jx pre W')) := by
  have HY := Lib.hid hY
  have HF := Lib.hid hF
  have HV := Lib.hid hv
  have HL := Lib.hid hH.l.len
  have HJ := Lib.hid hJ
  have hbw := hH.cl.lt
  have hbl := hF.l
  have cl := hH.cl.cell 0
  have H0 := Lib.hid hH
  have hfn : Fence.wide.fn 190 := trivial
  obtain ⟨all, hall⟩ : ∃ all, pairsL rs l = all := ⟨_, rfl⟩
  have hD0 : Hid (Done J all (pairsL rs (l.drop 0)) W) := Lib.hid ⟨[], hall, h0⟩
  rw [hall] at HY ⊢
  have HA := Lib.hid hall
  clear hY hF hv hH hJ hall h0
  refine callsIn_of_wp Tryz.func189 rfl trivial ?_ rfl
  simp only [Tryz.ntmps189, List.size_toArray, List.length_cons, List.length_nil, Nat.reduceAdd, Nat.reduceSub, Array.replicate_succ, Array.replicate_zero, List.push_toArray, List.append_toArray, List.nil_append, List.cons_append]
  gi_wp2
  gi_loopw [11] (fun s11 wr => ∃ i : Nat, i ≤ m ∧ s11 = .int .i64 i ∧ Hid (Hold wr bl br A A2 m c m2 c2 l rs) ∧ Hid (Done J all (pairsL rs (l.drop i)) wr) ∧ W.heap.size ≤ wr.heap.size) (fun s11 _ => m - (intOf s11).toNat)
  case atStart => exact ⟨0, Nat.zero_le _, rfl, H0, hD0, Nat.le_refl _⟩
  case round =>
    obtain ⟨i, hi, rfl, hh, hd, hsz⟩ := hrel
    by_cases hlt : i < m
    · have R := Src.of_row hh.out.l
      obtain ⟨b0, o0, rfl, hb0⟩ := R.some_ (by omega)
      obtain ⟨a0, a1, a2, a3, a4, a5⟩ := R.cells hlt
      have hlc := R.cap
      have hlm := R.most
      unfold maxLen at hlm
      have hi0 : (0 : Int) ≤ (i : Int) := by omega
      have hi1 : (i : Int) < (m : Int) := by omega
      have hw1 : IntKind.i64.wrap ((i : Int) + 1) = (i : Int) + 1 := IntWalk.i64_in _ (by omega)
      clear R
      have hil : i < l.length := by rw [HL.out]; exact hlt
      have hxv := Lib.hid (HV.out _ (at_mem hil))
      obtain ⟨l', hl'⟩ : ∃ l', l.drop (i + 1) = l' := ⟨_, rfl⟩
      obtain ⟨A', hA'⟩ : ∃ A', cutA (some ⟨b0, o0, none⟩) c (i + 1) = A' := ⟨_, rfl⟩
      obtain ⟨m', hm'⟩ : ∃ m', m - (i + 1) = m' := ⟨_, rfl⟩
      obtain ⟨c', hc'⟩ : ∃ c', c - (i + 1) = c' := ⟨_, rfl⟩
      have hsl : ∀ w, (Instr.slice 42 (.slice (some ⟨b0, o0, none⟩) m c) (some (.int .i64 ((i : Int) + 1))) none none).run Tryz.prog w = .ok (.slice A' m' c') w := by
        intro w
        have := run_fromP (some ⟨b0, o0, none⟩) m c (i + 1) (by omega) w
        rw [hA', hm', hc'] at this
        simpa using this
      have HSrc : Hid (∀ w, Hold w bl br (some ⟨b0, o0, none⟩) A2 m c m2 c2 l rs → Src w A' m' c' l') := Lib.hid fun w h => by
        have := (Src.of_row h.l).from_ (i + 1) (by omega)
        rw [hA', hm', hc', hl'] at this
        exact this
      have HV' : Hid (∀ p ∈ l', (0 ≤ p.n ∧ p.n ≤ 9007199254740991) ∧ 0 ≤ p.t ∧ p.t ≤ 9007199254740991) := Lib.hid fun p hp => HV.out p (by rw [← hl'] at hp; exact List.mem_of_mem_drop hp)
      have HL' : Hid (l'.length = m') := Lib.hid (by rw [← hl', List.length_drop, HL.out, hm'])
      have hmm : m' ≤ 256 := by omega
      have HE : Hid (l.drop (i + 1) = l') := Lib.hid hl'
      have HP : Hid (pairsL rs (l.drop i) = innerL (at_ l i) (reach rs (at_ l i).n) l' ++ pairsL rs l') := Lib.hid (by rw [pdrop_at hil, hl']; rfl)
      have hD1 := hd.out
      rw [HP.out] at hD1
      obtain ⟨x, hx⟩ : ∃ x, at_ l i = x := ⟨_, rfl⟩
      rw [hx] at a0 a1 a2 a3 a4 a5 hxv hD1
      clear hx HP hl' hA' hm' hc' hd
      obtain ⟨last, hlast⟩ : ∃ last, reach rs x.n = last := ⟨_, rfl⟩
      rw [hlast] at hD1
      have ka := (Kept.refl wr).alloc (.cells (pkA x) 32)
      have HC := Lib.hid (reach_any A2 m2 c2 rs x.n _ (hh.out.kept ka).r hxv.out.1)
      rw [hlast] at HC
      have BX := Lib.hid (Blk.new wr 32 (pkA x))
      have KA := Lib.hid ka
      have HD1 := Lib.hid hD1
      have cr1 : wr.cell? ⟨br, 0, none⟩ = some (.slice A2 m2 c2) := hh.out.cr.cell 0
      have cl1 : wr.cell? ⟨bl, 0, none⟩ = some (.slice (some ⟨b0, o0, none⟩) m c) := hh.out.cl.cell 0
      have hbr := hh.out.cr.lt
      have hbl1 := hh.out.cl.lt
      clear ka hlast hD1
      gi_wp2_with fail
      refine ⟨fun _ => by omega, ?_⟩
      refine (callsIn_wide.2 HC.out).mono ?_
      rintro e w1 ⟨rfl, k1⟩
      have B1 := Lib.hid (BX.out.kept k1)
      have K1 := Lib.hid (KA.out.trans k1)
      have H1 := Lib.hid (hh.out.kept K1.out)
      have cl2 : w1.cell? ⟨bl, 0, none⟩ = some (.slice (some ⟨b0, o0, none⟩) m c) := H1.out.cl.cell 0
      have D1 := Lib.hid (HD1.out.grown HJ.out K1.out)
      have hs1 := K1.out.size
      clear k1 a0 a1 a2 a3 a4 a5 cl1 cr1 cl
      gi_wp2_with fail
      obtain ⟨q, hq⟩ : ∃ q, wr.heap.size = q := ⟨_, rfl⟩
      rw [hq] at B1 hs1 hsz ⊢
      clear hq
      gi_loopw [25] (fun s25 wr => ∃ k : Nat, k ≤ m' ∧ s25 = .int .i64 k ∧ Hid (Hold wr bl br (some ⟨b0, o0, none⟩) A2 m c m2 c2 l rs) ∧ Hid (Blk wr q 32 (pkA x)) ∧ Hid (Done J all (innerL x last (l'.drop k) ++ pairsL rs l') wr) ∧ W.heap.size ≤ wr.heap.size) (fun s25 _ => m' - (intOf s25).toNat)
      case atStart => exact ⟨0, Nat.zero_le _, rfl, H1, B1, D1, by omega⟩
      case round =>
        obtain ⟨k, hk, rfl, hh2, hB2, hD2, hsz2⟩ := hrel
        by_cases hlt2 : k < m'
        · have R := HSrc.out _ hh2.out
          obtain ⟨b1, o1, rfl, hb1⟩ := R.some_ (by omega)
          obtain ⟨y0, y1, y2, y3, y4, y5⟩ := R.cells hlt2
          have hk0 : (0 : Int) ≤ (k : Int) := by omega
          have hk1 : (k : Int) < (m' : Int) := by omega
          have hw2 : IntKind.i64.wrap ((k : Int) + 1) = (k : Int) + 1 := IntWalk.i64_in _ (by omega)
          clear R
          have hkl : k < l'.length := by rw [HL'.out]; exact hlt2
          have hyv := Lib.hid (HV'.out _ (at_mem hkl))
          have hdk := Lib.hid (pdrop_at hkl)
          obtain ⟨y, hy⟩ : ∃ y, at_ l' k = y := ⟨_, rfl⟩
          rw [hy] at y0 y1 y2 y3 y4 y5 hyv hdk
          clear hy
          have bx := hB2.out
          have x0 : wr.cell? ⟨q, 0, none⟩ = some (.int .i64 x.n) := bx.cell 0
          have x1 : wr.cell? ⟨q, 1, none⟩ = some (.int .i64 x.t) := bx.cell 1
          have x2 : wr.cell? ⟨q, 2, none⟩ = some (.int .i64 x.s) := bx.cell 2
          have x3 : wr.cell? ⟨q, 3, none⟩ = some (.bool x.e) := bx.cell 3
          have x4 : wr.cell? ⟨q, 4, none⟩ = some (.bool x.f) := bx.cell 4
          have x5 : wr.cell? ⟨q, 5, none⟩ = some (.bool x.c) := bx.cell 5
          have hqlt := bx.lt
          clear bx
          have kb := (Kept.refl wr).alloc (.cells (pkA y) 32)
          have H3 := Lib.hid (hh2.out.kept kb)
          have B3 := Lib.hid (hB2.out.kept kb)
          have hD3 := hD2.out.grown HJ.out kb
          have hs3 := kb.size
          clear kb
          by_cases hl : last < y.n
          · have hdl : decide (last < y.n) = true := decide_eq_true hl
            have D3 : Hid (Done J all (pairsL rs l') _) := Lib.hid (by rw [hdk.out, inner_end _ hl, List.nil_append] at hD3; exact hD3)
            clear hD3
            gi_wp2_with fail
            refine ⟨⟨i + 1, by omega, by go_num, H3, by rw [HE.out]; exact D3, Nat.le_trans hsz2 hs3⟩, by simp [intOf]; omega⟩
          · have hdl : decide (last < y.n) = false := decide_eq_false hl
            by_cases ht : x.t ≤ y.t
            · have hdt : decide (x.t ≤ y.t) = true := decide_eq_true ht
              obtain ⟨pre, hp1, hp2⟩ := hD3
              rw [hdk.out, inner_go _ hl ht] at hp1
              have hplen : pre.length < all.length := by rw [← hp1]; simp
              obtain ⟨fn, tmps, assign, body, hyl, hR⟩ := HY.out pre ⟨(x, y), hxv.out.2, hyv.out.2⟩ _ hp2 hplen
              have HR := Lib.hid hR
              have hp3 : Hid ((pre ++ [(⟨(x, y), hxv.out.2, hyv.out.2⟩ : PP)]).map (·.1) ++ (innerL x last (l'.drop (k + 1)) ++ pairsL rs l') = all) := Lib.hid (by rw [← hp1]; simp)
              clear hR hp1 hp2 hplen
              unfold encp at hyl
              simp only at hyl
              gi_wp2_with fail
              refine ⟨fun _ => by omega, ?_⟩
              refine HR.out.mono ?_
              rintro e W3 (⟨rfl, hJ3, hk3⟩ | ⟨rfl, hJx3⟩)
              · have D4 : Hid (Done J all (innerL x last (l'.drop (k + 1)) ++ pairsL rs l') W3) := Lib.hid ⟨_, hp3.out, hJ3⟩
                have H4 := Lib.hid (H3.out.kps hk3 HF.out)
                have B4 := Lib.hid (hk3.blk B3.out (not_four (by omega)))
                have hs4 : W.heap.size ≤ W3.heap.size := Nat.le_trans hsz2 (Nat.le_trans hs3 hk3.1)
                clear hJ3 hk3 x0 x1 x2 x3 x4 x5 y0 y1 y2 y3 y4 y5 hyl cl2
                gi_wp2_with fail
                refine ⟨⟨k + 1, by omega, by go_num, H4, B4, D4, hs4⟩, by simp [intOf]; omega⟩
              · have HX := Lib.hid hJx3
                clear hJx3
                gi_wp2_with fail
                refine bodyPost_ret (results_none rfl _ _ _) rfl ?_
                exact ⟨⟨_, rfl⟩, .inr ⟨_, trivial, HX.out⟩⟩
            · have hdt : decide (x.t ≤ y.t) = false := decide_eq_false ht
              have D3 : Hid (Done J all (innerL x last (l'.drop (k + 1)) ++ pairsL rs l') _) := Lib.hid (by rw [hdk.out, inner_skip _ hl ht] at hD3; exact hD3)
              clear hD3
              gi_wp2_with fail
              refine ⟨fun f h => (by cases h), ?_⟩
              gi_wp2_with fail
              refine ⟨⟨k + 1, by omega, by go_num, H3, B3, D3, Nat.le_trans hsz2 hs3⟩, by simp [intOf]; omega⟩
        · obtain rfl : k = m' := by omega
          have D3 : Hid (Done J all (pairsL rs l') wr) := Lib.hid (by
            have := hD2.out
            rw [← HL'.out, List.drop_length] at this
            exact this)
          gi_wp2_with fail
          refine ⟨⟨i + 1, by omega, by go_num, hh2, by rw [HE.out]; exact D3, hsz2⟩, by simp [intOf]; omega⟩
    · obtain rfl : i = m := by omega
      have hJ : Hid (∃ ys : List PP, ys.map (·.1) = all ∧ J ys wr) := by
        obtain ⟨pre, h1, h2⟩ := hd.out
        rw [← HL.out, List.drop_length] at h1
        exact Lib.hid ⟨pre, by rw [← h1]; simp [pairsL], h2⟩
      clear hd hh
      gi_wp2
      go_end0
      exact ⟨⟨_, rfl⟩, .inl hJ.out⟩
end Go.Proofs.YtilkgjpgoogiiaaGreat.Per
