/-
  What the law SentSums holds: the packets that were put, whether each is there, and the log.
-/
import Derived.Test.YtfbhmfkjpfbleaaSntK
import Derived.Test.YtfbhmfkjpfbleaaSntQ
namespace Go.Proofs.Ytfbhmfkjpfbleaa.Snt
open Go.RowKit SntM Cd Wd
set_option linter.unusedVariables false
set_option linter.unusedSimpArgs false

def boolC : Cod Bool where
  enc b := [.bool b]
  size := 1
  pos := by decide
  len _ := rfl
  one p u h := by
    simp only [List.mem_cons, List.not_mem_nil, or_false] at h
    rw [h]; rfl
  inj a b h := by
    simp only [List.cons.injEq, Value.bool.injEq, and_true] at h
    exact h
theorem info_bool : (Try.prog.info? 4).map (fun i => (i.zero, i.size, i.bytes)) = some (some (.bool false), 1, 1) := by kernel_rfl
noncomputable def boolE : Elt Try.prog boolC 47 4 :=
  { i := (info_parts info_bool).choose
    z := .bool false
    bytes := 1
    und := Try.underlying47
    info := (info_parts info_bool).choose_spec.1
    zero := (info_parts info_bool).choose_spec.2.1
    size := (info_parts info_bool).choose_spec.2.2.1
    byt := (info_parts info_bool).choose_spec.2.2.2
    zs := rfl
    few := by decide }
abbrev BRow (w : World) (A : Option Addr) (n c : Nat) (l : List Bool) : Prop := Rw boolC 4 w A n c l
abbrev BLay (w : World) (b : Nat) (W : World) (v : Value) (L : List Bool) : Prop := Lay boolC 4 w b W v L
theorem brow_cell {w : World} {g n c k : Nat} {l : List Bool} (h : BRow w (some ⟨g, 0, none⟩) n c l) (hk : k < n) : w.cell? ⟨g, k, none⟩ = some (.bool (at_ l k)) := by
  have := h.cell hk (j := 0) (by decide)
  rwa [show k * boolC.size + 0 = k from Nat.mul_one k] at this

/-! Mathematics. -/
abbrev QL := List (Pk × Bool)
def live : QL → List Pk
  | [] => []
  | x :: q => if x.2 = true then x.1 :: live q else live q
theorem live_append (a b : QL) : live (a ++ b) = live a ++ live b := by induction a with
  | nil => rfl
  | cons x t ih => simp only [List.cons_append, live, ih]; split <;> simp
theorem live_len (q : QL) : (live q).length ≤ q.length := by induction q with
  | nil => exact Nat.le_refl _
  | cons x t ih => simp only [live]; split <;> simp <;> omega
theorem live_mem {q : QL} {p : Pk} (h : p ∈ live q) : (p, true) ∈ q := by induction q with
  | nil => cases h
  | cons x t ih =>
    obtain ⟨a, b⟩ := x
    cases b with
    | true =>
      simp only [live, if_pos] at h
      rcases List.mem_cons.1 h with h | h
      · rw [h]; exact List.mem_cons_self
      · exact List.mem_cons_of_mem _ (ih h)
    | false =>
      have h' : p ∈ live t := by simpa [live] using h
      exact List.mem_cons_of_mem _ (ih h')
theorem at_split2 {q : QL} {k : Nat} (h : k < q.length) : q = q.take k ++ (at_ q k :: q.drop (k + 1)) := by
  rw [at_of h, List.getElem_cons_drop, List.take_append_drop]
theorem at_map {α β : Type} [Inhabited α] [Inhabited β] (f : α → β) {q : List α} {k : Nat} (h : k < q.length) : at_ (q.map f) k = f (at_ q k) := by
  rw [at_of (by rw [List.length_map]; exact h), at_of h, List.getElem_map]
/-- The rows and the log tell of the same packets. -/
structure Inv (Q : QL) (last : Int) (k : Nat) : Prop where
  rise : Rise (Q.map Prod.fst)
  top : ∀ x ∈ Q, x.1.n ≤ last
  bd : -1 ≤ last ∧ last ≤ 5 * (k : Int)
  len : Q.length ≤ k
theorem inv_nil : Inv [] (-1) 0 := ⟨List.Pairwise.nil, fun x h => (by cases h), by omega, Nat.le_refl _⟩
theorem Inv.num {Q : QL} {last : Int} {k : Nat} (h : Inv Q last k) {i j : Nat} (hi : i < Q.length) (hj : j < Q.length) (he : (at_ Q i).1.n = (at_ Q j).1.n) : i = j := by
  rw [← at_map Prod.fst hi, ← at_map Prod.fst hj] at he
  rcases Nat.lt_trichotomy i j with h1 | h1 | h1
  · have := rise_at h.rise h1 (by rw [List.length_map]; exact hj); omega
  · exact h1
  · have := rise_at h.rise h1 (by rw [List.length_map]; exact hi); omega
theorem mem_at2 {q : QL} {x : Pk × Bool} (h : x ∈ q) : ∃ i, i < q.length ∧ at_ q i = x := by
  obtain ⟨i, hi, rfl⟩ := List.getElem_of_mem h
  exact ⟨i, hi, at_of hi⟩
theorem live_rise {Q : QL} (h : Rise (Q.map Prod.fst)) : Rise (live Q) := by induction Q with
  | nil => exact List.Pairwise.nil
  | cons x t ih =>
    have h1 := List.pairwise_cons.1 h
    simp only [live]
    split
    · refine List.pairwise_cons.2 ⟨fun p hp => ?_, ih h1.2⟩
      exact h1.1 p (List.mem_map.2 ⟨_, live_mem hp, rfl⟩)
    · exact ih h1.2
theorem Inv.get {Q : QL} {last : Int} {k : Nat} (h : Inv Q last k) {i : Nat} (hi : i < Q.length) : getB (live Q) (at_ Q i).1.n = (at_ Q i).2 ∧ ((at_ Q i).2 = true → getP (live Q) (at_ Q i).1.n = (at_ Q i).1) := by
  cases hb : (at_ Q i).2 with
  | true =>
    have hm : (at_ Q i).1 ∈ live Q := by
      have e : live Q = live (Q.take i) ++ live (at_ Q i :: Q.drop (i + 1)) := by rw [← live_append, ← at_split2 hi]
      rw [e]
      apply List.mem_append_right
      simp only [live, hb, if_pos]
      exact List.mem_cons_self
    have hg := getO_some (live_rise h.rise) hm
    unfold getB getP
    rw [hg]
    exact ⟨rfl, fun _ => rfl⟩
  | false =>
    have hg : getO (live Q) (at_ Q i).1.n = none := by
      apply getO_none
      intro p hp e
      obtain ⟨j, hj, hjx⟩ := mem_at2 (live_mem hp)
      have : j = i := h.num hj hi (by rw [hjx]; exact e)
      rw [this] at hjx
      rw [hjx] at hb
      cases hb
    unfold getB
    rw [hg]
    exact ⟨rfl, fun h => (by cases h)⟩
theorem Inv.put {Q : QL} {last : Int} {k : Nat} (h : Inv Q last k) {q : Pk} (h1 : last < q.n) (h2 : q.n ≤ last + 5) : Inv (Q ++ [(q, true)]) q.n (k + 1) := by
  have hb := h.bd
  refine ⟨?_, fun x hx => ?_, by omega, by have := h.len; simp; omega⟩
  · rw [List.map_append]
    refine List.pairwise_append.2 ⟨h.rise, List.pairwise_singleton _ _, fun a ha b hb => ?_⟩
    obtain ⟨x, hx, rfl⟩ := List.mem_map.1 ha
    have hb : b = q := by simpa using hb
    rw [hb]
    have := h.top x hx; omega
  · rcases List.mem_append.1 hx with hx | hx
    · have := h.top x hx; omega
    · rw [List.mem_singleton.1 hx]; exact Int.le_refl _
theorem live_put (Q : QL) (q : Pk) : live (Q ++ [(q, true)]) = live Q ++ [q] := by rw [live_append]; rfl
def out (Q : QL) (i : Nat) : QL := Q.set i ((at_ Q i).1, false)
theorem out_split {Q : QL} {i : Nat} (hi : i < Q.length) : out Q i = Q.take i ++ (((at_ Q i).1, false) :: Q.drop (i + 1)) := by
  unfold out; rw [List.set_eq_take_append_cons_drop, if_pos hi]
theorem out_fst {Q : QL} {i : Nat} (hi : i < Q.length) : (out Q i).map Prod.fst = Q.map Prod.fst := by
  rw [out_split hi]
  conv => rhs; rw [at_split2 hi]
  simp
theorem out_snd {Q : QL} {i : Nat} : (out Q i).map Prod.snd = (Q.map Prod.snd).set i false := by unfold out; rw [List.map_set]
theorem Inv.out_ {Q : QL} {last : Int} {k : Nat} (h : Inv Q last k) {i : Nat} (hi : i < Q.length) : Inv (out Q i) last (k + 1) := by
  have hb := h.bd
  refine ⟨by rw [out_fst hi]; exact h.rise, fun x hx => ?_, by omega, by unfold out; rw [List.length_set]; have := h.len; omega⟩
  unfold out at hx
  rcases List.mem_or_eq_of_mem_set hx with hx | hx
  · exact h.top x hx
  · rw [hx]; exact h.top (at_ Q i) (at_mem hi)
theorem Inv.more {Q : QL} {last : Int} {k : Nat} (h : Inv Q last k) : Inv Q last (k + 1) := ⟨h.rise, h.top, by have := h.bd; omega, Nat.le_succ_of_le h.len⟩
theorem Inv.live_out {Q : QL} {last : Int} {k : Nat} (h : Inv Q last k) {i : Nat} (hi : i < Q.length) : dropL (live Q) (at_ Q i).1.n = live (out Q i) := by
  have hne : ∀ j, j < Q.length → j ≠ i → (at_ Q j).1.n ≠ (at_ Q i).1.n := fun j hj hji e => hji (h.num hj hi e)
  have k1 : ∀ q : QL, (∀ x ∈ q, x.1.n ≠ (at_ Q i).1.n) → dropL (live q) (at_ Q i).1.n = live q := fun q hq => by
    unfold dropL; rw [List.filter_eq_self]
    intro p hp
    simpa using hq _ (live_mem hp)
  have h1 : ∀ x ∈ Q.take i, x.1.n ≠ (at_ Q i).1.n := fun x hx => by
    obtain ⟨j, hj, rfl⟩ := mem_at2 hx
    rw [List.length_take] at hj
    have e : at_ (Q.take i) j = at_ Q j := by conv => rhs; rw [at_split2 hi, at_left _ (by rw [List.length_take]; omega)]
    rw [e]; exact hne j (by omega) (by omega)
  have h2 : ∀ x ∈ Q.drop (i + 1), x.1.n ≠ (at_ Q i).1.n := fun x hx => by
    obtain ⟨j, hj, rfl⟩ := mem_at2 hx
    rw [List.length_drop] at hj
    have e : at_ (Q.drop (i + 1)) j = at_ Q (i + 1 + j) := by
      rw [at_of (by rw [List.length_drop]; exact hj), at_of (by omega), List.getElem_drop]
    rw [e]; exact hne _ (by omega) (by omega)
  have e1 : live Q = live (Q.take i) ++ (live [at_ Q i] ++ live (Q.drop (i + 1))) := by
    conv => lhs; rw [at_split2 hi, live_append, ← List.singleton_append, live_append]
  have e2 : live (out Q i) = live (Q.take i) ++ live (Q.drop (i + 1)) := by
    rw [out_split hi, live_append]; rfl
  have e3 : dropL (live [at_ Q i]) (at_ Q i).1.n = [] := by
    unfold dropL; rw [List.filter_eq_nil_iff]
    intro p hp
    have := live_mem hp
    rw [List.mem_singleton] at this
    rw [← this]; simp
  rw [e2, e1]
  unfold dropL at k1 e3 ⊢
  rw [List.filter_append, List.filter_append, k1 _ h1, k1 _ h2, e3, List.nil_append]
theorem live_take {Q : QL} {i : Nat} (hi : i < Q.length) : live (Q.take (i + 1)) = live (Q.take i) ++ (if (at_ Q i).2 = true then [(at_ Q i).1] else []) := by
  rw [take_succ hi, live_append]
  rfl

theorem live_of_mem {q : QL} {p : Pk} (h : (p, true) ∈ q) : p ∈ live q := by induction q with
  | nil => cases h
  | cons x t ih =>
    rcases List.mem_cons.1 h with h | h
    · rw [← h]; simp [live]
    · simp only [live]
      split
      · exact List.mem_cons_of_mem _ (ih h)
      · exact ih h
def sLen (Q : QL) (j : Nat) : Int := ((live (Q.take j)).length : Nat)
def sFly (Q : QL) (j : Nat) : Int := fly (live (Q.take j))
def sEli (Q : QL) (j : Nat) : Int := eli (live (Q.take j))
theorem s_zero (Q : QL) : sLen Q 0 = 0 ∧ sFly Q 0 = 0 ∧ sEli Q 0 = 0 := ⟨rfl, rfl, rfl⟩
theorem s_no {Q : QL} {i : Nat} (hi : i < Q.length) (h : (at_ Q i).2 = false) : sLen Q (i + 1) = sLen Q i ∧ sFly Q (i + 1) = sFly Q i ∧ sEli Q (i + 1) = sEli Q i := by
  unfold sLen sFly sEli
  rw [live_take hi, h]
  simp
theorem s_yes {Q : QL} {i : Nat} (hi : i < Q.length) {x : Pk} (h : at_ Q i = (x, true)) : sLen Q (i + 1) = sLen Q i + 1 ∧ sFly Q (i + 1) = sFly Q i + (if x.f = true then x.s else 0) ∧ sEli Q (i + 1) = sEli Q i + (if x.f = true then (if x.e = true then 1 else 0) else 0) := by
  unfold sLen sFly sEli
  rw [live_take hi, h]
  simp only [if_true, fly_append, eli_append, List.length_append, List.length_singleton, fly, eli, Int.add_zero]
  exact ⟨by first | trivial | omega, by first | trivial | rfl, by first | trivial | rfl⟩
theorem s_all (Q : QL) : sLen Q Q.length = ((live Q).length : Nat) ∧ sFly Q Q.length = fly (live Q) ∧ sEli Q Q.length = eli (live Q) := by
  unfold sLen sFly sEli
  rw [List.take_length]
  exact ⟨rfl, rfl, rfl⟩
theorem s_bd {Q : QL} {room : Nat} {last : Int} (h : SntM.Good room last (live Q)) {j : Nat} (hj : j ≤ 1000) : (0 ≤ sLen Q j ∧ sLen Q j ≤ 1000) ∧ (0 ≤ sFly Q j ∧ sFly Q j ≤ 65535 * 1000) ∧ (0 ≤ sEli Q j ∧ sEli Q j ≤ 1000) := by
  have h1 := live_len (Q.take j)
  rw [List.length_take] at h1
  have h2 := eli_bd (live (Q.take j))
  have h3 := fly_bd (l := live (Q.take j)) (fun p hp => by
    have := (h.good p (live_of_mem (List.mem_of_mem_take (live_mem hp)))).1.2.2.2.2
    omega)
  unfold sLen sFly sEli
  omega

/-! Memory. -/
structure Mem (w : World) (p g b : Nat) (last : Int) (l : List Pk) (A5 : Option Addr) (c5 : Nat) (P : List Pk) (A6 : Option Addr) (c6 : Nat) (T : List Bool) (W : World) : Prop where
  log : LogIs W p g 256 last l
  pk : PRow W A5 P.length c5 P
  pkf : ∀ i, own A5 = some i → b ≤ i
  bl : BRow W A6 T.length c6 T
  blf : ∀ i, own A6 = some i → b ≤ i
  since : Kept w W
  hp : w.heap.size ≤ p ∧ p < b
  hg : w.heap.size ≤ g ∧ g < b
  hb : w.heap.size ≤ b ∧ b ≤ W.heap.size
namespace Mem
variable {w W W1 w' : World} {p g b c5 c6 : Nat} {last last' : Int} {l l' P : List Pk} {T : List Bool} {A5 A6 : Option Addr}
theorem kept (h : Mem w p g b last l A5 c5 P A6 c6 T W) (k : Kept W w') : Mem w p g b last l A5 c5 P A6 c6 T w' :=
  ⟨h.log.kept k, h.pk.kept k, h.pkf, h.bl.kept k, h.blf, h.since.trans k, h.hp, h.hg, h.hb.1, Nat.le_trans h.hb.2 k.size⟩
theorem turn (h : Mem w p g b last l A5 c5 P A6 c6 T W) (h' : LogIs w' p g 256 last' l') (t : Turned p g W w') : Mem w p g b last' l' A5 c5 P A6 c6 T w' :=
  ⟨h', h.pk.but t (fun i e => by have := h.pkf i e; have := h.hp; have := h.hg; rintro (f | f) <;> omega), h.pkf, h.bl.but t (fun i e => by have := h.blf i e; have := h.hp; have := h.hg; rintro (f | f) <;> omega), h.blf,
   h.since.then_ t (by rintro i (rfl | rfl); exact h.hp.1; exact h.hg.1), h.hp, h.hg, h.hb.1, Nat.le_trans h.hb.2 t.size⟩
theorem layP (h : Mem w p g b last l A5 c5 P A6 c6 T W) : PLay w b W (.slice A5 P.length c5) P := ⟨A5, c5, rfl, h.pk, h.pkf, h.since⟩
theorem layT (h : Mem w p g b last l A5 c5 P A6 c6 T W) : BLay w b W (.slice A6 T.length c6) T := ⟨A6, c6, rfl, h.bl, h.blf, h.since⟩
theorem apart (h : Mem w p g b last l A5 c5 P A6 c6 T W) : ∀ i, own A5 = some i → own A6 ≠ some i := fun i e e' => by
  rcases h.pk.form with ⟨h1, _⟩ | ⟨g1, c1, h1, hb1, _⟩
  · rw [h1] at e; cases e
  · rcases h.bl.form with ⟨h2, _⟩ | ⟨g2, c2, h2, hb2, _⟩
    · rw [h2] at e'; cases e'
    · rw [h1] at e; rw [h2] at e'
      injection e with e; injection e' with e'
      exact hb1.ne_ hb2 (by decide) (e.trans e'.symm)
/-- A packet is appended to the one row. -/
theorem pushP {m : Nat} (h : Mem w p g b last l A5 c5 P A6 c6 T W) {v' : Value} {y : Pk} (hk : Kept W W1) (hv : PLay w b w' v' (P ++ [y])) (hg : W1.grownBy w' (Value.slice A5 m c5).ownBlock) :
    ∃ A' c', v' = .slice A' (P ++ [y]).length c' ∧ Mem w p g b last l A' c' (P ++ [y]) A6 c6 T w' := by
  obtain ⟨A', c', rfl, hr, hf, hs⟩ := hv
  rw [own_block] at hg
  have h1 := h.kept hk
  have hbut : But (fun k => own A5 = some k) W1 w' := (But.refl _ W1).grown hg (fun k e _ => e)
  refine ⟨A', c', rfl, ⟨h1.log.but hbut (fun e => by have := h.pkf _ e; have := h.hp; omega) (fun e => by have := h.pkf _ e; have := h.hg; omega), hr, hf, h1.bl.but hbut (fun i e e' => h1.apart i e' e), h.blf, hs, h.hp, h.hg, h.hb.1, Nat.le_trans h1.hb.2 hg.size⟩⟩
theorem pushT {m : Nat} (h : Mem w p g b last l A5 c5 P A6 c6 T W) {v' : Value} {y : Bool} (hk : Kept W W1) (hv : BLay w b w' v' (T ++ [y])) (hg : W1.grownBy w' (Value.slice A6 m c6).ownBlock) :
    ∃ A' c', v' = .slice A' (T ++ [y]).length c' ∧ Mem w p g b last l A5 c5 P A' c' (T ++ [y]) w' := by
  obtain ⟨A', c', rfl, hr, hf, hs⟩ := hv
  rw [own_block] at hg
  have h1 := h.kept hk
  have hbut : But (fun k => own A6 = some k) W1 w' := (But.refl _ W1).grown hg (fun k e _ => e)
  refine ⟨A', c', rfl, ⟨h1.log.but hbut (fun e => by have := h.blf _ e; have := h.hp; omega) (fun e => by have := h.blf _ e; have := h.hg; omega), h1.pk.but hbut (fun i e e' => h1.apart i e e'), h.pkf, hr, hf, hs, h.hp, h.hg, h.hb.1, Nat.le_trans h1.hb.2 hg.size⟩⟩
theorem setT {g6 : Nat} (h : Mem w p g b last l A5 c5 P (some ⟨g6, 0, none⟩) c6 T W) {k : Nat} (hk : k < T.length) (y : Bool) : Mem w p g b last l A5 c5 P (some ⟨g6, 0, none⟩) c6 (T.set k y) (W.setCell ⟨g6, k, none⟩ (.bool y)) := by
  have hb := h.blf g6 rfl
  have hbut : But (fun i => i = g6) W (W.setCell ⟨g6, k, none⟩ (.bool y)) := (But.refl (fun i => i = g6) W).setCell (p := ⟨g6, k, none⟩) rfl _
  have hr := h.bl.put_ hk y
  have e : sets W g6 (k * boolC.size) (boolC.enc y) = W.setCell ⟨g6, k, none⟩ (.bool y) := by
    show W.setCell ⟨g6, k * 1, none⟩ (.bool y) = _
    rw [Nat.mul_one]
  rw [e] at hr
  refine ⟨h.log.but hbut (by have := h.hp; omega) (by have := h.hg; omega), h.pk.but hbut (fun i e1 e2 => by subst e2; exact h.apart _ e1 rfl), h.pkf, by rw [List.length_set]; exact hr, h.blf,
    h.since.then_ hbut (by rintro i rfl; have := h.hb; omega), h.hp, h.hg, h.hb.1, Nat.le_trans h.hb.2 hbut.size⟩
end Mem

end Go.Proofs.Ytfbhmfkjpfbleaa.Snt
