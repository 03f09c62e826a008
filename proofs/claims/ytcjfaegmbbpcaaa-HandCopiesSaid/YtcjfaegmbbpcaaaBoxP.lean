/-
  Rows of boxes put in another order; some of them alone; what an index says when a box is set. (For every layer.)
-/
import Derived.Test.YtcjfaegmbbpcaaaBox
namespace Go.Proofs.Ytcjfaegmbbpcaaa.Bxs
open Go.RowKit Wd
set_option linter.unusedVariables false
set_option linter.unusedSimpArgs false

section
variable {w V W : World} {L : List Ent}
theorem Bx.cut {L' : List Ent} (h : Bx w (L ++ L') W) : Bx w L W := by
  have key : ∀ (k : Nat) (e : Ent), L[k]? = some e → (L ++ L')[k]? = some e := fun k e hk => by
    rw [List.getElem?_append_left (List.getElem?_eq_some_iff.1 hk).1]; exact hk
  exact ⟨h.K, fun i e hi => h.all i e (key i e hi), fun i j e f hi hj => h.nd i j e f (key i e hi) (key j f hj)⟩
/-- Some of the boxes, in another order. -/
theorem Bx.sel (h : Bx w L W) (ks : List Nat) (hk : ks.Nodup) : Bx w (ks.filterMap fun k => L[k]?) W := by
  have hp : (ks.filterMap fun k => L[k]?).Pairwise (fun e f : Ent => e.1 ≠ f.1) := List.Pairwise.filterMap _ (fun a a' hne b hb b' hb' => h.nd a a' b b' hb hb' hne) hk
  rw [List.pairwise_iff_getElem] at hp
  refine ⟨h.K, fun i e hi => ?_, fun i j e f hi hj hij => ?_⟩
  · have hm := List.mem_of_getElem? hi
    obtain ⟨k, _, hk⟩ := List.mem_filterMap.1 hm
    exact h.all k e hk
  · obtain ⟨li, ei⟩ := List.getElem?_eq_some_iff.1 hi
    obtain ⟨lj, ej⟩ := List.getElem?_eq_some_iff.1 hj
    subst ei; subst ej
    rcases Nat.lt_or_gt_of_ne hij with h1 | h1
    · exact hp i j li lj h1
    · exact (hp j i lj li h1).symm
/-- The last one takes the place of another one. -/
theorem Bx.move {e : Ent} (h : Bx w (L ++ [e]) W) (j : Nat) (hj : j < L.length) : Bx w (L.set j e) W := by
  have key : ∀ (k : Nat) (x : Ent), (L.set j e)[k]? = some x → (k = j ∧ (L ++ [e])[L.length]? = some x) ∨ (k ≠ j ∧ k < L.length ∧ (L ++ [e])[k]? = some x) := by
    intro k x hk
    by_cases hkj : k = j
    · subst hkj
      rw [List.getElem?_set_self hj] at hk
      exact .inl ⟨rfl, by rw [List.getElem?_append_right (Nat.le_refl _), Nat.sub_self]; exact hk⟩
    · rw [List.getElem?_set_ne (fun e => hkj e.symm)] at hk
      have hl := (List.getElem?_eq_some_iff.1 hk).1
      exact .inr ⟨hkj, hl, by rw [List.getElem?_append_left hl]; exact hk⟩
  refine ⟨h.K, fun i x hi => ?_, fun a b x y ha hb hab => ?_⟩
  · rcases key i x hi with ⟨_, h1⟩ | ⟨_, _, h1⟩ <;> exact h.all _ _ h1
  · rcases key a x ha with ⟨h1, h2⟩ | ⟨h1, h3, h2⟩ <;> rcases key b y hb with ⟨k1, k2⟩ | ⟨k1, k3, k2⟩
    · exact absurd (h1.trans k1.symm) hab
    · exact h.nd _ _ _ _ h2 k2 (by omega)
    · exact h.nd _ _ _ _ h2 k2 (by omega)
    · exact h.nd _ _ _ _ h2 k2 hab
end
section
variable {w V W : World} {L : List Ent}
theorem Bx.iff : Bx w L W ↔ Kept w W ∧ (∀ e ∈ L, Blk W e.1 e.2.1 e.2.2 ∧ w.heap.size ≤ e.1) ∧ L.Pairwise (fun e f => e.1 ≠ f.1) := by
  constructor
  · intro h
    refine ⟨h.K, fun e he => ?_, ?_⟩
    · obtain ⟨i, hi⟩ := List.mem_iff_getElem?.1 he
      exact h.all i e hi
    · rw [List.pairwise_iff_getElem]
      intro i j hi hj hij
      exact h.nd i j _ _ (List.getElem?_eq_getElem hi) (List.getElem?_eq_getElem hj) (Nat.ne_of_lt hij)
  · rintro ⟨k, ha, hp⟩
    rw [List.pairwise_iff_getElem] at hp
    refine ⟨k, fun i e hi => ha e (List.mem_of_getElem? hi), fun i j e f hi hj hij => ?_⟩
    obtain ⟨li, ei⟩ := List.getElem?_eq_some_iff.1 hi
    obtain ⟨lj, ej⟩ := List.getElem?_eq_some_iff.1 hj
    subst ei; subst ej
    rcases Nat.lt_or_gt_of_ne hij with h1 | h1
    · exact hp i j li lj h1
    · exact (hp j i lj li h1).symm
theorem Bx.perm {M : List Ent} (h : Bx w L W) (p : L.Perm M) : Bx w M W := by
  obtain ⟨k, ha, hp⟩ := Bx.iff.1 h
  exact Bx.iff.2 ⟨k, fun e he => ha e (p.mem_iff.2 he), (p.pairwise_iff (fun h => h.symm)).1 hp⟩
theorem Bx.tail {e : Ent} (h : Bx w (e :: L) W) : Bx w L W := by
  obtain ⟨k, ha, hp⟩ := Bx.iff.1 h
  exact Bx.iff.2 ⟨k, fun x hx => ha x (List.mem_cons_of_mem _ hx), (List.pairwise_cons.1 hp).2⟩
theorem Bx.front {e : Ent} (h : Bx w (L ++ [e]) W) : Bx w (e :: L) W := h.perm (List.perm_append_comm (l₂ := [e]))
theorem Bx.back {e : Ent} (h : Bx w (e :: L) W) : Bx w (L ++ [e]) W := h.perm (List.perm_append_comm (l₁ := [e]))
theorem Bx.swap {e f : Ent} (h : Bx w (e :: f :: L) W) : Bx w (f :: e :: L) W := h.perm (List.Perm.swap f e L)
theorem Bx.lay (h : Bx w L W) (t : TypeId) (cs : Array Value) : Bx w ((W.heap.size, t, cs) :: L) (W.alloc (.cells cs t)) := Bx.front (h.new t cs)
end
theorem set_self {L : List Ent} {j : Nat} {e : Ent} (h : L[j]? = some e) : L.set j e = L := by
  apply List.ext_getElem?
  intro k
  rw [List.getElem?_set]
  split
  · rename_i hk
    subst hk
    rw [if_pos (List.getElem?_eq_some_iff.1 h).1, h]
  · rfl
theorem set_at {L : List Ent} {i j : Nat} {e f : Ent} (h : L[i]? = some e) (hij : i ≠ j) : (L.set j f)[i]? = some e := by
  rw [List.getElem?_set_ne (fun x => hij x.symm)]; exact h
theorem set_on {L : List Ent} {j : Nat} {e f : Ent} (h : L[j]? = some e) : (L.set j f)[j]? = some f := List.getElem?_set_self (List.getElem?_eq_some_iff.1 h).1
theorem apart {L : List Ent} {i j g b : Nat} {T U : TypeId} {a c : Array Value} (hi : L[i]? = some (g, T, a)) (hj : L[j]? = some (b, U, c)) (hs : a.size ≠ c.size) : i ≠ j := by
  rintro rfl
  rw [hi] at hj
  have := Option.some.inj hj
  simp only [Prod.mk.injEq] at this
  exact hs (by rw [this.2.2])
end Go.Proofs.Ytcjfaegmbbpcaaa.Bxs
