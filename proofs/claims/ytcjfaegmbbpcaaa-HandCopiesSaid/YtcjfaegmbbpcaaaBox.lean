/-
  A row of boxes: blocks that a call made since a first world, each of them known whole; nothing that was there before has turned. (For every layer.)
-/
import Derived.Test.YtcjfaegmbbpcaaaWord
namespace Go.Proofs.Ytcjfaegmbbpcaaa.Bxs
open Go.RowKit Wd
set_option linter.unusedVariables false
set_option linter.unusedSimpArgs false

/-- A box: its number, its cells' type, its cells. -/
abbrev Ent := Nat × TypeId × Array Value
structure Bx (w : World) (L : List Ent) (W : World) : Prop where
  K : Kept w W
  all : ∀ (i : Nat) (e : Ent), L[i]? = some e → Blk W e.1 e.2.1 e.2.2 ∧ w.heap.size ≤ e.1
  nd : ∀ (i j : Nat) (e f : Ent), L[i]? = some e → L[j]? = some f → i ≠ j → e.1 ≠ f.1
section
variable {w W W' : World} {L : List Ent}
theorem Bx.nil (w : World) : Bx w [] w := ⟨Kept.refl _, fun _ _ h => by simp at h, fun _ _ _ _ h => by simp at h⟩
theorem Bx.start (k : Kept w W) : Bx w [] W := ⟨k, fun _ _ h => by simp at h, fun _ _ _ _ h => by simp at h⟩
theorem Bx.on (h : Bx w L W) (k : Kept W W') : Bx w L W' := ⟨h.K.trans k, fun i e hi => ⟨(h.all i e hi).1.kept k, (h.all i e hi).2⟩, h.nd⟩
theorem Bx.get (h : Bx w L W) (i : Nat) {b : Nat} {t : TypeId} {cs : Array Value} (hi : L[i]? = some (b, t, cs)) : Blk W b t cs := (h.all i _ hi).1
theorem Bx.ge (h : Bx w L W) (i : Nat) {b : Nat} {t : TypeId} {cs : Array Value} (hi : L[i]? = some (b, t, cs)) : w.heap.size ≤ b := (h.all i _ hi).2
theorem Bx.lt (h : Bx w L W) (i : Nat) {b : Nat} {t : TypeId} {cs : Array Value} (hi : L[i]? = some (b, t, cs)) : b < W.heap.size := (h.all i _ hi).1.lt
theorem Bx.ne (h : Bx w L W) (i j : Nat) {b b' : Nat} {t t' : TypeId} {cs cs' : Array Value} (hi : L[i]? = some (b, t, cs)) (hj : L[j]? = some (b', t', cs')) (hij : i ≠ j) : b ≠ b' := h.nd i j _ _ hi hj hij
/-- One box is laid behind. -/
theorem Bx.new (h : Bx w L W) (t : TypeId) (cs : Array Value) : Bx w (L ++ [(W.heap.size, t, cs)]) (W.alloc (.cells cs t)) := by
  have key : ∀ i e, (L ++ [(W.heap.size, t, cs)])[i]? = some e → (L[i]? = some e) ∨ (i = L.length ∧ e = (W.heap.size, t, cs)) := by
    intro i e hi
    rcases Nat.lt_or_ge i L.length with h' | h'
    · rw [List.getElem?_append_left h'] at hi; exact .inl hi
    · rw [List.getElem?_append_right h'] at hi
      rcases Nat.eq_zero_or_pos (i - L.length) with h0 | h0
      · rw [h0] at hi
        exact .inr ⟨by omega, (Option.some.inj hi).symm⟩
      · rw [List.getElem?_eq_none (by simp; omega)] at hi; cases hi
  refine ⟨h.K.alloc _, fun i e hi => ?_, fun i j e f hi hj hij => ?_⟩
  · rcases key i e hi with h1 | ⟨_, rfl⟩
    · exact ⟨(h.all i e h1).1.kept ((Kept.refl _).alloc _), (h.all i e h1).2⟩
    · exact ⟨Blk.new _ _ _, h.K.size⟩
  · rcases key i e hi with h1 | ⟨h1, rfl⟩
    · rcases key j f hj with h2 | ⟨h2, rfl⟩
      · exact h.nd i j e f h1 h2 hij
      · exact Nat.ne_of_lt (h.all i e h1).1.lt
    · rcases key j f hj with h2 | ⟨h2, rfl⟩
      · exact (Nat.ne_of_lt (h.all j f h2).1.lt).symm
      · exact absurd (h1.trans h2.symm) hij
/-- One box is filled anew. -/
theorem Bx.set_ (h : Bx w L W) (i : Nat) {b : Nat} {t : TypeId} {cs : Array Value} (hi : L[i]? = some (b, t, cs)) {cs' : Array Value} (hb : Blk W' b t cs') (hk : But (fun k => k = b) W W') : Bx w (L.set i (b, t, cs')) W' := by
  have hil : i < L.length := (List.getElem?_eq_some_iff.1 hi).1
  have num : ∀ j e, (L.set i (b, t, cs'))[j]? = some e → ∃ f, L[j]? = some f ∧ f.1 = e.1 ∧ (j ≠ i → f = e) ∧ (j = i → e = (b, t, cs')) := by
    intro j e hj
    by_cases hji : j = i
    · subst hji
      rw [List.getElem?_set_self hil] at hj
      have := Option.some.inj hj
      subst this
      exact ⟨_, hi, rfl, fun h => absurd rfl h, fun _ => rfl⟩
    · rw [List.getElem?_set_ne (fun e => hji e.symm)] at hj
      exact ⟨e, hj, rfl, fun _ => rfl, fun h => absurd h hji⟩
  refine ⟨h.K.then_ hk (fun k e => by have := h.ge i hi; omega), fun j e hj => ?_, fun j k e f hj hk' hjk => ?_⟩
  · obtain ⟨f, hf, h1, h2, h3⟩ := num j e hj
    by_cases hji : j = i
    · rw [h3 hji]
      exact ⟨hb, h.ge i hi⟩
    · have := h2 hji
      subst this
      refine ⟨(h.all j f hf).1.but hk (fun e => ?_), (h.all j f hf).2⟩
      exact h.nd j i f _ hf hi hji e
  · obtain ⟨e', he, h1, _, _⟩ := num j e hj
    obtain ⟨f', hf, h2, _, _⟩ := num k f hk'
    rw [← h1, ← h2]
    exact h.nd j k e' f' he hf hjk
/-- One cell of a box is stored. -/
theorem Bx.cell_ (h : Bx w L W) (i : Nat) {b : Nat} {t : TypeId} {cs : Array Value} (hi : L[i]? = some (b, t, cs)) (k : Nat) (u : Value) : Bx w (L.set i (b, t, cs.setIfInBounds k u)) (W.setCell ⟨b, k, none⟩ u) :=
  h.set_ i hi ((h.get i hi).set_ k u) ((But.refl (fun j => j = b) W).setCell (p := ⟨b, k, none⟩) rfl u)
end
theorem Bx.one (w : World) (t : TypeId) (a : Array Value) : Bx w [(w.heap.size, t, a)] (w.alloc (.cells a t)) := (Bx.nil w).new t a
theorem Bx.two (w : World) (t u : TypeId) (a b : Array Value) : Bx w [(w.heap.size, t, a), (w.heap.size + 1, u, b)] ((w.alloc (.cells a t)).alloc (.cells b u)) := by
  have h := (Bx.one w t a).new u b
  rw [World.size_alloc] at h
  exact h
theorem Bx.three (w : World) (t u v : TypeId) (a b c : Array Value) : Bx w [(w.heap.size, t, a), (w.heap.size + 1, u, b), (w.heap.size + 1 + 1, v, c)] (((w.alloc (.cells a t)).alloc (.cells b u)).alloc (.cells c v)) := by
  have h := (Bx.two w t u a b).new v c
  rw [World.size_alloc, World.size_alloc] at h
  exact h
end Go.Proofs.Ytcjfaegmbbpcaaa.Bxs
