/-
  More plain mathematics of logs: what dropping and closing gaps does to the places and the totals.
-/
import Derived.Test.YtfbhmfkjpfbleaaSntM
namespace Go.Proofs.Ytfbhmfkjpfbleaa.SntM
open Cd
set_option linter.unusedSimpArgs false
set_option linter.unusedVariables false

theorem rise_map {l m : List Pk} (h : l.map Pk.n = m.map Pk.n) (hr : Rise l) : Rise m := by
  have h1 : (l.map Pk.n).Pairwise (· < ·) := List.pairwise_map.2 hr
  rw [h] at h1
  exact List.pairwise_map.1 h1
theorem map_set {es : List Pk} {i : Nat} (hi : i < es.length) {n : Int} (hn : (at_ es i).n = n) : (es.set i (gap n)).map Pk.n = es.map Pk.n := by
  rw [List.map_set]
  apply List.ext_getElem (by simp)
  intro j h1 h2
  rw [List.getElem_set]
  split
  · subst_vars
    rw [at_of hi]; simp [gap]
  · rfl
theorem skip_sub (es : List Pk) : (skip es).Sublist es := List.dropWhile_sublist _
theorem skip_head (es : List Pk) : ∀ p, (skip es).head? = some p → real p = true := by
  intro p hp
  induction es with
  | nil => cases hp
  | cons q t ih =>
    cases hq : real q with
    | true => rw [skip_cons_real t hq] at hp; simp at hp; rw [← hp]; exact hq
    | false => rw [skip_cons_gap t hq] at hp; exact ih hp
theorem ok_drop {room : Nat} {last : Int} {es : List Pk} (h : Ok room last es) {i : Nat} (hi : i < es.length) {n : Int} (hn : (at_ es i).n = n) : Ok room last (skip (es.set i (gap n))) :=
  ⟨(rise_map (map_set hi hn).symm h.rise).sublist (skip_sub _), fun p hp => by
    have h1 := (skip_sub _).subset hp
    rcases List.mem_or_eq_of_mem_set h1 with h2 | h2
    · exact h.good p h2
    · have := (h.good _ (at_mem hi)).2
      rw [hn] at this
      rw [h2]; exact ⟨.inr rfl, this⟩, Nat.le_trans (skip_sub _).length_le (by rw [List.length_set]; exact h.len), h.room1, skip_head _, h.last1⟩
/-- The totals, where a packet becomes a gap. -/
theorem sums_drop {es : List Pk} {i : Nat} (hi : i < es.length) (n : Int) :
    (((reals es).length : Nat) : Int) + -1 * ((reals [at_ es i]).length : Nat) = ((reals (es.set i (gap n))).length : Nat) ∧
    fly (reals es) + -1 * fly (reals [at_ es i]) = fly (reals (es.set i (gap n))) ∧ eli (reals es) + -1 * eli (reals [at_ es i]) = eli (reals (es.set i (gap n))) := by
  have e1 : reals es = reals (es.take i) ++ (reals [at_ es i] ++ reals (es.drop (i + 1))) := by
    conv => lhs; rw [at_split hi, reals_append, reals_append]
  have e2 : reals (es.set i (gap n)) = reals (es.take i) ++ reals (es.drop (i + 1)) := by
    rw [set_split hi, reals_append, reals_append, reals_one_no (real_gap n), List.nil_append]
  rw [e1, e2]
  simp only [fly_append, eli_append, List.length_append, Int.natCast_add]
  refine ⟨?_, ?_, ?_⟩ <;> omega

/-! Closing gaps. -/
theorem real_take_len (es : List Pk) (i : Nat) : (reals (es.take i)).length ≤ i := Nat.le_trans (reals_len _) (by rw [List.length_take]; exact Nat.min_le_left _ _)
/-- Up to place i the packets are moved together; from there on all is as it was. -/
def Closing (room start : Nat) (es X : List Pk) (i : Nat) : Prop :=
  X.length = room ∧ Ring room start X (reals (es.take i)) ∧ (∀ j, i ≤ j → j < es.length → at_ X ((start + j) % room) = at_ es j)
theorem Closing.init {room start : Nat} {es X : List Pk} (hX : X.length = room) (h : Ring room start X es) : Closing room start es X 0 :=
  ⟨hX, by simpa [reals] using Ring.nil room start X, fun j _ hj => h j hj⟩
theorem Closing.gap_ {room start : Nat} {es X : List Pk} {i : Nat} (h : Closing room start es X i) (hi : i < es.length) (hg : real (at_ es i) = false) : Closing room start es X (i + 1) ∧ reals (es.take (i + 1)) = reals (es.take i) := by
  have e : reals (es.take (i + 1)) = reals (es.take i) := by rw [take_succ hi, reals_append, reals_one_no hg, List.append_nil]
  exact ⟨⟨h.1, by rw [e]; exact h.2.1, fun j h1 h2 => h.2.2 j (by omega) h2⟩, e⟩
theorem Closing.real_ {room start : Nat} {es X : List Pk} {i : Nat} (h : Closing room start es X i) (hs : start < room) (hl : es.length ≤ room) (hi : i < es.length) (hg : real (at_ es i) = true) :
    Closing room start es (X.set ((start + (reals (es.take i)).length) % room) (at_ es i)) (i + 1) ∧ reals (es.take (i + 1)) = reals (es.take i) ++ [at_ es i] := by
  have e : reals (es.take (i + 1)) = reals (es.take i) ++ [at_ es i] := by rw [take_succ hi, reals_append, reals_one_yes hg]
  have hk := real_take_len es i
  refine ⟨⟨by rw [List.length_set]; exact h.1, by rw [e]; exact h.2.1.put h.1 hs (by omega) _, fun j h1 h2 => ?_⟩, e⟩
  rw [at_set (by rw [h.1]; exact wrap_lt hs), if_neg (fun e' => by have := wrap_inj hs (by omega) (by omega) e'; omega)]
  exact h.2.2 j (by omega) h2
theorem Closing.done {room start : Nat} {es X : List Pk} (h : Closing room start es X es.length) : Ring room start X (reals es) := by
  have := h.2.1; rwa [List.take_length] at this

theorem reals_snoc {es : List Pk} {p : Pk} (h : real p = true) : reals (es ++ [p]) = reals es ++ [p] := by rw [reals_append, reals_one_yes h]

end Go.Proofs.Ytfbhmfkjpfbleaa.SntM
