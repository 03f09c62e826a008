/-
  Contracts of slices.Insert (of one range), whatever room there is.
-/
import Derived.Test.YtganelhlpobdjaaDoorSpnB
namespace Go.Proofs.YtganelhlpobdjaaDoor.Spn
open Go.RowKit SpnM Wd
set_option linter.unusedVariables false
set_option linter.unusedSimpArgs false

set_option maxRecDepth 100000 in
theorem splice_front {α : Type} {L cs : List α} {o : Nat} (h : o ≤ L.length) : (splice L o cs).take (o + cs.length) = L.take o ++ cs := by
  have e : (L.take o ++ cs).length = o + cs.length := by simp; omega
  unfold splice
  rw [← List.append_assoc, List.take_append_of_le_length (Nat.le_of_eq e.symm), List.take_of_length_le (Nat.le_of_eq e)]
set_option maxRecDepth 100000 in
theorem splice_keep {α : Type} {L cs : List α} {o k : Nat} (h : o ≤ L.length) (hk : k ≤ o) : (splice L o cs).take k = L.take k := by
  unfold splice
  rw [List.take_append_of_le_length (by simp; omega), List.take_take, Nat.min_eq_left hk]
set_option maxRecDepth 100000 in
theorem splice_behind {α : Type} {L cs : List α} {o : Nat} (h : o ≤ L.length) : (splice L o cs).drop (o + cs.length) = L.drop (o + cs.length) := by
  have e : (L.take o ++ cs).length = o + cs.length := by simp; omega
  unfold splice
  rw [← List.append_assoc, List.drop_append_of_le_length (Nat.le_of_eq e.symm), List.drop_of_length_le (Nat.le_of_eq e), List.nil_append]
set_option maxRecDepth 100000 in
theorem splice_drop {α : Type} {L cs : List α} {o : Nat} (h : o ≤ L.length) : (splice L o cs).drop o = cs ++ L.drop (o + cs.length) := by
  have e : (L.take o).length = o := by simp; omega
  unfold splice
  rw [List.drop_append_of_le_length (Nat.le_of_eq e.symm), List.drop_of_length_le (Nat.le_of_eq e), List.nil_append]
set_option maxRecDepth 100000 in
theorem take_two {α : Type} (L : List α) (a b : Nat) : L.take (a + b) = L.take a ++ (L.drop a).take b := List.take_add

set_option maxRecDepth 100000 in
/-- In place: what stands from i on goes up by one, and the new range is laid at i. -/
theorem ins_room {X : List Value} {l : List R} {n c i : Nat} (r : R) (hl : l.length = n) (hX : X.length = c * 2) (ht : X.take (n * 2) = flat l) (hi : i ≤ n) (hc : n + 1 ≤ c) :
    (splice (splice X ((i + 1) * 2) (flat (l.drop i))) (i * 2) (flat [r])).length = c * 2 ∧ (splice (splice X ((i + 1) * 2) (flat (l.drop i))) (i * 2) (flat [r])).take ((n + 1) * 2) = flat (l.take i ++ r :: l.drop i) := by
  have hd : (flat (l.drop i)).length = (n - i) * 2 := by rw [flat_length, List.length_drop, hl]
  have h1 : (flat [r]).length = 2 := rfl
  have hlen1 : (splice X ((i + 1) * 2) (flat (l.drop i))).length = c * 2 := by rw [length_splice _ _ _ (by omega)]; exact hX
  refine ⟨by rw [length_splice _ _ _ (by omega)]; exact hlen1, ?_⟩
  have e2 : (n + 1) * 2 = (i * 2 + (flat [r]).length) + (n - i) * 2 := by omega
  rw [e2, take_two, splice_front (by omega), splice_behind (by omega), splice_keep (by omega) (by omega), h1, show i * 2 + 2 = (i + 1) * 2 by omega, splice_drop (by omega)]
  have e3 : X.take (i * 2) = flat (l.take i) := by rw [flat_take, ← ht, List.take_take, Nat.min_eq_left (by omega)]
  rw [e3, List.take_append_of_le_length (Nat.le_of_eq hd.symm), List.take_of_length_le (Nat.le_of_eq hd), flat_append, show r :: l.drop i = [r] ++ l.drop i from rfl, flat_append, List.append_assoc]
set_option maxRecDepth 100000 in
/-- In a new row: the new range is laid at i, and behind it what stood from i on. -/
theorem ins_grow {Z : List Value} {l : List R} {n c i : Nat} (r : R) (hl : l.length = n) (hZ : Z.length = c * 2) (ht : Z.take (i * 2) = flat (l.take i)) (hi : i ≤ n) (hc : n + 1 ≤ c) :
    (splice (splice Z (i * 2) (flat [r])) ((i + 1) * 2) (flat (l.drop i))).length = c * 2 ∧ (splice (splice Z (i * 2) (flat [r])) ((i + 1) * 2) (flat (l.drop i))).take ((n + 1) * 2) = flat (l.take i ++ r :: l.drop i) := by
  have hd : (flat (l.drop i)).length = (n - i) * 2 := by rw [flat_length, List.length_drop, hl]
  have h1 : (flat [r]).length = 2 := rfl
  have hlen1 : (splice Z (i * 2) (flat [r])).length = c * 2 := by rw [length_splice _ _ _ (by omega)]; exact hZ
  refine ⟨by rw [length_splice _ _ _ (by omega)]; exact hlen1, ?_⟩
  have e2 : (n + 1) * 2 = (i + 1) * 2 + (flat (l.drop i)).length := by omega
  have e4 : (i + 1) * 2 = i * 2 + (flat [r]).length := by omega
  rw [e2, splice_front (by omega), e4, splice_front (by omega), ht, flat_append, show r :: l.drop i = [r] ++ l.drop i from rfl, flat_append, List.append_assoc]

/-- A row of ranges comes of another one: in its block, or in a new one; nothing else has turned. -/
def Put (A : Option Addr) (n' : Nat) (l' : List R) (w : World) (e : Ending) (w' : World) : Prop :=
  ∃ A' c', e = .returned (.slice A' n' c') ∧ Row w' A' n' c' l' ∧ But (fun k => own A = some k) w w' ∧ ∀ k, own A' = some k → own A = some k ∨ w.heap.size ≤ k

set_option maxRecDepth 100000 in
theorem news_of {w : World} {g o : Nat} {t : TypeId} {X : List Value} (h : Blk w g t X.toArray) (cs : List Value) (hc : ∀ j v, cs[j]? = some v → X[o + j]? = some v) : ∀ j v, cs[j]? = some v → w.cell? ((⟨g, o, none⟩ : Addr).add j) = some v := by
  intro j v hv
  have hb : w.cell? ⟨g, o + j, none⟩ = X[o + j]? := by have := h.cell (o + j); simpa using this
  rw [Addr.add_lit, hb]; exact hc j v hv
set_option maxRecDepth 100000 in
theorem flat_drop_at {X : List Value} {l : List R} {n : Nat} (hl : l.length = n) (ht : X.take (n * 2) = flat l) (i : Nat) : ∀ j v, (flat (l.drop i))[j]? = some v → X[i * 2 + j]? = some v := by
  intro j v hv
  rw [flat_drop, List.getElem?_drop, ← ht, List.getElem?_take] at hv
  split at hv
  · exact hv
  · cases hv

end Go.Proofs.YtganelhlpobdjaaDoor.Spn
