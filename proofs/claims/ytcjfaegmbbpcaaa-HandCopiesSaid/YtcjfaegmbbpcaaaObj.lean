/-
  Things in memory, side by side: each is known by what is said of its own blocks; a call turns one of them, the others stay. (For every layer.)
-/
import Derived.Test.YtcjfaegmbbpcaaaBoxP
namespace Go.Proofs.Ytcjfaegmbbpcaaa.Obs
open Go.RowKit Wd Bxs
set_option linter.unusedVariables false
set_option linter.unusedSimpArgs false

/-- A thing: which blocks it has, and what is said of them. -/
structure Ob where
  P : List Nat → World → Prop
  blk : ∀ {F : List Nat} {W : World}, P F W → ∀ i ∈ F, ∃ t cs, Blk W i t cs
  far : ∀ {F : List Nat} {W W' : World}, P F W → (∀ i ∈ F, W'.heap[i]? = W.heap[i]?) → P F W'
theorem Ob.kept {o : Ob} {F : List Nat} {W W' : World} (h : o.P F W) (k : Kept W W') : o.P F W' := o.far h fun i hi => by
  obtain ⟨t, cs, hb⟩ := o.blk h i hi
  exact k.at_ hb.lt
/-- Things side by side: their blocks, one behind the other. -/
def Sep : List Ob → List Nat → World → Prop
  | [], F, _ => F = []
  | o :: L, F, W => ∃ A B, F = A ++ B ∧ o.P A W ∧ Sep L B W
theorem Sep.blk : ∀ {L : List Ob} {F : List Nat} {W : World}, Sep L F W → ∀ i ∈ F, ∃ t cs, Blk W i t cs
  | [], F, W, h, i, hi => by rw [show F = [] from h] at hi; cases hi
  | o :: L, F, W, ⟨A, B, e, ha, hb⟩, i, hi => by
    rw [e] at hi
    rcases List.mem_append.1 hi with h | h
    · exact o.blk ha i h
    · exact Sep.blk hb i h
theorem Sep.far : ∀ {L : List Ob} {F : List Nat} {W W' : World}, Sep L F W → (∀ i ∈ F, W'.heap[i]? = W.heap[i]?) → Sep L F W'
  | [], F, W, W', h, _ => h
  | o :: L, F, W, W', ⟨A, B, e, ha, hb⟩, hs => by
    subst e
    exact ⟨A, B, rfl, o.far ha (fun i hi => hs i (List.mem_append_left _ hi)), Sep.far hb (fun i hi => hs i (List.mem_append_right _ hi))⟩
theorem Sep.kept {L : List Ob} {F : List Nat} {W W' : World} (h : Sep L F W) (k : Kept W W') : Sep L F W' := h.far fun i hi => by
  obtain ⟨t, cs, hb⟩ := h.blk i hi
  exact k.at_ hb.lt
theorem Sep.append : ∀ {L M : List Ob} {F : List Nat} {W : World}, Sep (L ++ M) F W ↔ ∃ A B, F = A ++ B ∧ Sep L A W ∧ Sep M B W
  | [], M, F, W => ⟨fun h => ⟨[], F, rfl, rfl, h⟩, fun ⟨A, B, e, ha, hb⟩ => by rw [show A = [] from ha] at e; rw [e]; exact hb⟩
  | o :: L, M, F, W => by
    constructor
    · rintro ⟨A, B, rfl, ha, hb⟩
      obtain ⟨C, D, rfl, hc, hd⟩ := (Sep.append (L := L)).1 hb
      exact ⟨A ++ C, D, (List.append_assoc _ _ _).symm, ⟨A, C, rfl, ha, hc⟩, hd⟩
    · rintro ⟨A, B, rfl, ⟨C, D, rfl, hc, hd⟩, hb⟩
      exact ⟨C, D ++ B, List.append_assoc _ _ _, hc, (Sep.append (L := L)).2 ⟨D, B, rfl, hd, hb⟩⟩
theorem Sep.perm {L M : List Ob} (p : L.Perm M) : ∀ {F : List Nat} {W : World}, Sep L F W → ∃ G, G.Perm F ∧ Sep M G W := by
  induction p with
  | nil => exact fun h => ⟨_, List.Perm.refl _, h⟩
  | cons x _ ih =>
    rintro F W ⟨A, B, rfl, ha, hb⟩
    obtain ⟨G, hg, hs⟩ := ih hb
    exact ⟨A ++ G, hg.append_left A, A, G, rfl, ha, hs⟩
  | swap x y l =>
    rintro F W ⟨A, B, rfl, ha, C, D, rfl, hc, hd⟩
    refine ⟨C ++ (A ++ D), ?_, C, A ++ D, rfl, hc, A, D, rfl, ha, hd⟩
    rw [← List.append_assoc, ← List.append_assoc]
    exact List.perm_append_comm.append_right D
  | trans _ _ ih1 ih2 =>
    intro F W h
    obtain ⟨G, hg, hs⟩ := ih1 h
    obtain ⟨K, hk, ht⟩ := ih2 hs
    exact ⟨K, hk.trans hg, ht⟩

/-- Things made since a first world, side by side; of that world nothing has turned. -/
structure Sx (w : World) (L : List Ob) (W : World) : Prop where
  K : Kept w W
  ex : ∃ F : List Nat, Sep L F W ∧ F.Nodup ∧ ∀ i ∈ F, w.heap.size ≤ i
section
variable {w W W' : World} {L M : List Ob} {o o' : Ob}
theorem Sx.nil (w : World) : Sx w [] w := ⟨Kept.refl _, [], rfl, List.nodup_nil, fun i h => by cases h⟩
theorem Sx.start (k : Kept w W) : Sx w [] W := ⟨k, [], rfl, List.nodup_nil, fun i h => by cases h⟩
theorem Sx.on (h : Sx w L W) (k : Kept W W') : Sx w L W' := by
  obtain ⟨F, hs, hn, hl⟩ := h.ex
  exact ⟨h.K.trans k, F, hs.kept k, hn, hl⟩
theorem Sx.perm (h : Sx w L W) (p : L.Perm M) : Sx w M W := by
  obtain ⟨F, hs, hn, hl⟩ := h.ex
  obtain ⟨G, hg, ht⟩ := hs.perm p
  exact ⟨h.K, G, ht, hg.nodup_iff.2 hn, fun i hi => hl i (hg.mem_iff.1 hi)⟩
theorem Sx.tail (h : Sx w (o :: L) W) : Sx w L W := by
  obtain ⟨F, ⟨A, B, rfl, ha, hb⟩, hn, hl⟩ := h.ex
  exact ⟨h.K, B, hb, (List.nodup_append.1 hn).2.1, fun i hi => hl i (List.mem_append_right _ hi)⟩
theorem Sx.swap {o2 : Ob} (h : Sx w (o :: o2 :: L) W) : Sx w (o2 :: o :: L) W := h.perm (List.Perm.swap _ _ _)
theorem Sx.drop (h : Sx w (L ++ M) W) : Sx w M W := by
  induction L with
  | nil => exact h
  | cons x l ih => exact ih (Sx.tail h)
theorem Sx.cut (h : Sx w (L ++ M) W) : Sx w L W := (h.perm List.perm_append_comm).drop
/-- The one at the front: a call turns it (into some), and what it had not stays. -/
theorem Sx.turn (h : Sx w (o :: M) W) : ∃ F, o.P F W ∧ F.Nodup ∧ (∀ i ∈ F, w.heap.size ≤ i ∧ i < W.heap.size) ∧
    ∀ W' L' F', Sep L' F' W' → F'.Nodup → (∀ i ∈ F', i ∈ F ∨ W.heap.size ≤ i) → But (fun i => i ∈ F) W W' → Sx w (L' ++ M) W' := by
  obtain ⟨F, ⟨A, B, rfl, ha, hb⟩, hn, hl⟩ := h.ex
  obtain ⟨hA, hB, hd⟩ := List.nodup_append.1 hn
  refine ⟨A, ha, hA, fun i hi => ⟨hl i (List.mem_append_left _ hi), ?_⟩, fun W' L' F' hs hn' hf hk => ?_⟩
  · obtain ⟨t, cs, hb⟩ := o.blk ha i hi
    exact hb.lt
  · have hlt : ∀ i ∈ B, i < W.heap.size := fun i hi => by
      obtain ⟨t, cs, hx⟩ := hb.blk i hi
      exact hx.lt
    have hb' : Sep M B W' := hb.far fun i hi => hk.block i (hlt i hi) (fun e => hd i e i hi rfl)
    refine ⟨h.K.then_ hk (fun i e => hl i (List.mem_append_left _ e)), F' ++ B, Sep.append.2 ⟨F', B, rfl, hs, hb'⟩, ?_, fun i hi => ?_⟩
    · refine List.nodup_append.2 ⟨hn', hB, fun a ha' b hb2 e => ?_⟩
      subst e
      rcases hf a ha' with h1 | h1
      · exact hd a h1 a hb2 rfl
      · have := hlt a hb2; omega
    · rcases List.mem_append.1 hi with h1 | h1
      · rcases hf i h1 with h2 | h2
        · exact hl i (List.mem_append_left _ h2)
        · exact Nat.le_trans h.K.size h2
      · exact hl i (List.mem_append_right _ h1)
/-- New ones, laid since this world. -/
theorem Sx.lay {F' : List Nat} {L' : List Ob} (h : Sx w M W) (hk : Kept W W') (hs : Sep L' F' W') (hn : F'.Nodup) (hf : ∀ i ∈ F', W.heap.size ≤ i) : Sx w (L' ++ M) W' := by
  obtain ⟨B, hb, hB, hl⟩ := h.ex
  have hlt : ∀ i ∈ B, i < W.heap.size := fun i hi => by
    obtain ⟨t, cs, hx⟩ := hb.blk i hi
    exact hx.lt
  refine ⟨h.K.trans hk, F' ++ B, Sep.append.2 ⟨F', B, rfl, hs, hb.kept hk⟩, ?_, fun i hi => ?_⟩
  · refine List.nodup_append.2 ⟨hn, hB, fun a ha' b hb2 e => ?_⟩
    subst e
    have := hf a ha'; have := hlt a hb2; omega
  · rcases List.mem_append.1 hi with h1 | h1
    · exact Nat.le_trans h.K.size (hf i h1)
    · exact hl i h1
theorem split_at {i : Nat} (hi : L[i]? = some o) : L = L.take i ++ o :: L.drop (i + 1) ∧ ∀ x : Ob, L.set i x = L.take i ++ x :: L.drop (i + 1) := by
  have hl : i < L.length := (List.getElem?_eq_some_iff.1 hi).1
  have e : L[i] = o := (List.getElem?_eq_some_iff.1 hi).2
  refine ⟨?_, fun x => ?_⟩
  · conv => lhs; rw [← List.take_append_drop i L, List.drop_eq_getElem_cons hl, e]
  · rw [List.set_eq_take_append_cons_drop, if_pos hl]
theorem front_at {i : Nat} (hi : L[i]? = some o) : L.Perm (o :: (L.take i ++ L.drop (i + 1))) := by
  conv => lhs; rw [(split_at hi).1]
  exact List.perm_middle
theorem back_at {i : Nat} (hi : L[i]? = some o) (x : Ob) : (x :: (L.take i ++ L.drop (i + 1))).Perm (L.set i x) := by
  rw [(split_at hi).2 x]
  exact List.perm_middle.symm
/-- The one at a place: a call turns it. -/
theorem Sx.at_ (h : Sx w L W) (i : Nat) (hi : L[i]? = some o) : ∃ F, o.P F W ∧ F.Nodup ∧ (∀ i ∈ F, w.heap.size ≤ i ∧ i < W.heap.size) ∧
    ∀ W' o' F', o'.P F' W' → F'.Nodup → (∀ i ∈ F', i ∈ F ∨ W.heap.size ≤ i) → But (fun i => i ∈ F) W W' → Sx w (L.set i o') W' := by
  obtain ⟨F, hp, hn, hl, ht⟩ := (h.perm (front_at hi)).turn
  refine ⟨F, hp, hn, hl, fun W' o' F' hp' hn' hf hk => ?_⟩
  exact (ht W' [o'] F' ⟨F', [], (List.append_nil _).symm, hp', rfl⟩ hn' hf hk).perm (back_at hi o')
/-- What one says of the world. -/
theorem Sx.get (h : Sx w L W) (i : Nat) (hi : L[i]? = some o) : ∃ F, o.P F W := by
  obtain ⟨F, hp, _⟩ := h.at_ i hi
  exact ⟨F, hp⟩
/-- The one at a place is said otherwise: what it says is the same. -/
theorem Sx.as (h : Sx w L W) (i : Nat) (hi : L[i]? = some o) (e : ∀ F, o.P F W → o'.P F W) : Sx w (L.set i o') W := by
  obtain ⟨F, hp, hn, hl, ht⟩ := h.at_ i hi
  exact ht W o' F (e F hp) hn (fun i hi => .inl hi) (But.refl _ _)
end
/-! Kinds of things. -/
/-- A box. -/
def box (g : Nat) (t : TypeId) (cs : Array Value) : Ob where
  P F W := F = [g] ∧ Blk W g t cs
  blk := fun ⟨e, h⟩ i hi => by rw [e] at hi; rw [List.mem_singleton.1 hi]; exact ⟨t, cs, h⟩
  far := fun ⟨e, h⟩ hs => ⟨e, h.at_ (hs g (by rw [e]; exact List.mem_singleton.2 rfl))⟩
/-- Several as one. -/
def join (L : List Ob) : Ob where
  P F W := Sep L F W
  blk := fun h => h.blk
  far := fun h => h.far
/-- One of many. -/
def some_ {α : Type} (f : α → Ob) : Ob where
  P F W := ∃ x, (f x).P F W
  blk := fun ⟨x, h⟩ => (f x).blk h
  far := fun ⟨x, h⟩ hs => ⟨x, (f x).far h hs⟩
/-- A fact. -/
def fact (p : Prop) : Ob where
  P F W := F = [] ∧ p
  blk := fun ⟨e, _⟩ i hi => by rw [e] at hi; cases hi
  far := fun h _ => h
section
variable {w W W' : World} {L M : List Ob} {o o' : Ob}
theorem Sx.join_ : Sx w (join L :: M) W ↔ Sx w (L ++ M) W := by
  constructor
  · rintro ⟨k, F, ⟨A, B, rfl, ha, hb⟩, hn, hl⟩
    exact ⟨k, A ++ B, Sep.append.2 ⟨A, B, rfl, ha, hb⟩, hn, hl⟩
  · rintro ⟨k, F, hs, hn, hl⟩
    obtain ⟨A, B, rfl, ha, hb⟩ := Sep.append.1 hs
    exact ⟨k, A ++ B, ⟨A, B, rfl, ha, hb⟩, hn, hl⟩
theorem Sx.some_iff {α : Type} {f : α → Ob} : Sx w (some_ f :: M) W ↔ ∃ x, Sx w (f x :: M) W := by
  constructor
  · rintro ⟨k, F, ⟨A, B, rfl, ⟨x, ha⟩, hb⟩, hn, hl⟩
    exact ⟨x, k, A ++ B, ⟨A, B, rfl, ha, hb⟩, hn, hl⟩
  · rintro ⟨x, k, F, ⟨A, B, rfl, ha, hb⟩, hn, hl⟩
    exact ⟨k, A ++ B, ⟨A, B, rfl, ⟨x, ha⟩, hb⟩, hn, hl⟩
theorem Sx.fact_iff {p : Prop} : Sx w (fact p :: M) W ↔ p ∧ Sx w M W := by
  constructor
  · rintro ⟨k, F, ⟨A, B, rfl, ⟨rfl, hp⟩, hb⟩, hn, hl⟩
    exact ⟨hp, k, B, hb, hn, hl⟩
  · rintro ⟨hp, k, F, hb, hn, hl⟩
    exact ⟨k, [] ++ F, ⟨[], F, rfl, ⟨rfl, hp⟩, hb⟩, hn, hl⟩
theorem Sx.box_ {g : Nat} {t : TypeId} {cs : Array Value} (h : Sx w L W) (i : Nat) (hi : L[i]? = some (box g t cs)) : Blk W g t cs := by
  obtain ⟨F, _, hb⟩ := h.get i hi
  exact hb
theorem Sx.box_ge {g : Nat} {t : TypeId} {cs : Array Value} (h : Sx w L W) (i : Nat) (hi : L[i]? = some (box g t cs)) : w.heap.size ≤ g := by
  obtain ⟨F, ⟨rfl, _⟩, _, hl, _⟩ := h.at_ i hi
  exact (hl g (List.mem_singleton.2 rfl)).1
/-- A box is filled anew. -/
theorem Sx.set_ {g : Nat} {t : TypeId} {cs cs' : Array Value} (h : Sx w L W) (i : Nat) (hi : L[i]? = some (box g t cs)) (hb : Blk W' g t cs') (hk : But (fun k => k = g) W W') : Sx w (L.set i (box g t cs')) W' := by
  obtain ⟨F, ⟨rfl, _⟩, hn, _, ht⟩ := h.at_ i hi
  exact ht W' (box g t cs') [g] ⟨rfl, hb⟩ hn (fun i hi => .inl hi) (hk.mono fun i _ e => List.mem_singleton.2 e)
/-- One cell of a box is stored. -/
theorem Sx.cell_ {g : Nat} {t : TypeId} {cs : Array Value} (h : Sx w L W) (i : Nat) (hi : L[i]? = some (box g t cs)) (k : Nat) (u : Value) : Sx w (L.set i (box g t (cs.setIfInBounds k u))) (W.setCell ⟨g, k, none⟩ u) :=
  h.set_ i hi ((h.box_ i hi).set_ k u) ((But.refl (fun j => j = g) W).setCell (p := ⟨g, k, none⟩) rfl u)
/-- A new box at the front. -/
theorem Sx.new (h : Sx w L W) (t : TypeId) (cs : Array Value) : Sx w (box W.heap.size t cs :: L) (W.alloc (.cells cs t)) :=
  h.lay (L' := [box W.heap.size t cs]) (F' := [W.heap.size]) ((Kept.refl _).alloc _) ⟨[W.heap.size], [], rfl, ⟨rfl, Blk.new _ _ _⟩, rfl⟩ (List.nodup_cons.2 ⟨List.not_mem_nil, List.nodup_nil⟩) (fun i hi => by rw [List.mem_singleton.1 hi]; exact Nat.le_refl _)
theorem mem_other {i j : Nat} {o2 : Ob} (hj : L[j]? = some o2) (hij : i ≠ j) : o2 ∈ L.take i ++ L.drop (i + 1) := by
  obtain ⟨hl, he⟩ := List.getElem?_eq_some_iff.1 hj
  rcases Nat.lt_or_gt_of_ne hij with h | h
  · refine List.mem_append_right _ (List.mem_iff_getElem?.2 ⟨j - (i + 1), ?_⟩)
    rw [List.getElem?_drop, show i + 1 + (j - (i + 1)) = j by omega]
    exact hj
  · refine List.mem_append_left _ (List.mem_iff_getElem?.2 ⟨j, ?_⟩)
    rw [List.getElem?_take_of_lt h]
    exact hj
/-- Two of them at the front. -/
theorem Sx.two {i j : Nat} {o2 : Ob} (h : Sx w L W) (hi : L[i]? = some o) (hj : L[j]? = some o2) (hij : i ≠ j) : ∃ R, L.Perm (o :: o2 :: R) ∧ Sx w (o :: o2 :: R) W := by
  obtain ⟨s, t, e⟩ := List.append_of_mem (mem_other hj hij)
  have p : L.Perm (o :: o2 :: (s ++ t)) := by
    refine (front_at hi).trans (List.Perm.cons o ?_)
    rw [e]
    exact List.perm_middle
  exact ⟨s ++ t, p, h.perm p⟩
theorem Sx.box_ne {g g' : Nat} {t t' : TypeId} {cs cs' : Array Value} (h : Sx w L W) (i j : Nat) (hi : L[i]? = some (box g t cs)) (hj : L[j]? = some (box g' t' cs')) (hij : i ≠ j) : g ≠ g' := by
  obtain ⟨R, _, _, F, ⟨A, B, rfl, ⟨rfl, _⟩, C, D, rfl, ⟨rfl, _⟩, _⟩, hn, _⟩ := h.two hi hj hij
  rintro rfl
  exact (List.nodup_cons.1 hn).1 (List.mem_append_right _ (List.mem_append_left _ (List.mem_singleton.2 rfl)))
end
/-! Rows of boxes: contracts over them are contracts over things. -/
def boxE (e : Ent) : Ob := box e.1 e.2.1 e.2.2
theorem sep_boxes : ∀ {L : List Ent} {F : List Nat} {W : World}, Sep (L.map boxE) F W ↔ F = L.map (fun e => e.1) ∧ ∀ e ∈ L, Blk W e.1 e.2.1 e.2.2
  | [], F, W => ⟨fun h => ⟨h, fun e he => by cases he⟩, fun h => h.1⟩
  | e :: L, F, W => by
    constructor
    · rintro ⟨A, B, rfl, ⟨rfl, ha⟩, hb⟩
      obtain ⟨rfl, hall⟩ := (sep_boxes (L := L)).1 hb
      exact ⟨rfl, fun x hx => by
        rcases List.mem_cons.1 hx with rfl | hx
        · exact ha
        · exact hall x hx⟩
    · rintro ⟨rfl, hall⟩
      exact ⟨[e.1], L.map (fun e => e.1), rfl, ⟨rfl, hall e List.mem_cons_self⟩, (sep_boxes (L := L)).2 ⟨rfl, fun x hx => hall x (List.mem_cons_of_mem _ hx)⟩⟩
theorem ents_of {W : World} : ∀ {F : List Nat}, (∀ i ∈ F, ∃ t cs, Blk W i t cs) → ∃ E : List Ent, F = E.map (fun e => e.1) ∧ ∀ e ∈ E, Blk W e.1 e.2.1 e.2.2
  | [], _ => ⟨[], rfl, fun e he => by cases he⟩
  | i :: F, h => by
    obtain ⟨t, cs, hb⟩ := h i List.mem_cons_self
    obtain ⟨E, rfl, hall⟩ := ents_of (F := F) (fun k hk => h k (List.mem_cons_of_mem _ hk))
    exact ⟨(i, t, cs) :: E, rfl, fun x hx => by
      rcases List.mem_cons.1 hx with rfl | hx
      · exact hb
      · exact hall x hx⟩
theorem nodup_ents {L : List Ent} : (L.map (fun e => e.1)).Nodup ↔ L.Pairwise (fun e f => e.1 ≠ f.1) := List.pairwise_map
/-- Boxes, and what else there is, as boxes: a call that turns the boxes leaves the rest. -/
theorem Sx.ents {w W : World} {L : List Ent} {M : List Ob} (h : Sx w (L.map boxE ++ M) W) : ∃ E : List Ent, Bx w (L ++ E) W ∧ ∀ W' L', Bx w (L' ++ E) W' → Sx w (L'.map boxE ++ M) W' := by
  obtain ⟨k, F, hs, hn, hl⟩ := h
  obtain ⟨A, B, rfl, ha, hb⟩ := Sep.append.1 hs
  obtain ⟨rfl, hall⟩ := sep_boxes.1 ha
  obtain ⟨E, rfl, hE⟩ := ents_of hb.blk
  rw [← List.map_append] at hn hl
  refine ⟨E, Bx.iff.2 ⟨k, fun e he => ⟨?_, hl e.1 (List.mem_map.2 ⟨e, he, rfl⟩)⟩, nodup_ents.1 hn⟩, fun W' L' hx => ?_⟩
  · rcases List.mem_append.1 he with h1 | h1
    · exact hall e h1
    · exact hE e h1
  · obtain ⟨k', ha', hp'⟩ := Bx.iff.1 hx
    refine ⟨k', L'.map (fun e => e.1) ++ E.map (fun e => e.1), Sep.append.2 ⟨_, _, rfl, sep_boxes.2 ⟨rfl, fun e he => (ha' e (List.mem_append_left _ he)).1⟩, hb.far fun i hi => ?_⟩, ?_, fun i hi => ?_⟩
    · obtain ⟨e, he, rfl⟩ := List.mem_map.1 hi
      have h1 := hE e he
      have h2 := (ha' e (List.mem_append_right _ he)).1
      unfold Blk at h1 h2
      rw [h1, h2]
    · rw [← List.map_append]; exact nodup_ents.2 hp'
    · rw [← List.map_append] at hi
      obtain ⟨e, he, rfl⟩ := List.mem_map.1 hi
      exact (ha' e he).2
theorem range_take {α : Type} : ∀ (n : Nat) (K : List α), (List.range n).filterMap (fun k => K[k]?) = K.take n
  | 0, K => rfl
  | n + 1, [] => by simp
  | n + 1, x :: K => by
    rw [List.range_succ_eq_map, List.filterMap_cons_some (f := fun k => (x :: K)[k]?) (a := 0) (b := x) rfl, List.filterMap_map]
    show x :: List.filterMap (fun k => K[k]?) (List.range n) = x :: K.take n
    rw [range_take n K]
/-- Some of the first n, in another order; the others of them are left out. -/
theorem Sx.sel {w W : World} {K : List Ob} (h : Sx w K W) (n : Nat) (ks rest : List Nat) (hp : (ks ++ rest).Perm (List.range n)) : Sx w ((ks.filterMap fun k => K[k]?) ++ K.drop n) W := by
  have e := range_take n K
  have p := hp.filterMap (fun k => K[k]?)
  rw [e, List.filterMap_append] at p
  have h1 : Sx w (((ks.filterMap fun k => K[k]?) ++ (rest.filterMap fun k => K[k]?)) ++ K.drop n) W := h.perm (by
    conv => lhs; rw [← List.take_append_drop n K]
    exact p.symm.append_right _)
  have q : (((ks.filterMap fun k => K[k]?) ++ (rest.filterMap fun k => K[k]?)) ++ K.drop n).Perm ((rest.filterMap fun k => K[k]?) ++ ((ks.filterMap fun k => K[k]?) ++ K.drop n)) := by
    rw [← List.append_assoc]
    exact List.perm_append_comm.append_right _
  exact (h1.perm q).drop
/-- What a call does to a thing at the front it does to it at any place. -/
theorem Sx.front {w W : World} {L : List Ob} {o : Ob} {P : Program} {f : FuncId} {args : Array Value} {R : Ending → Ob → Prop} (h : Sx w L W) (i : Nat) (hi : L[i]? = some o)
    (c : ∀ M, Sx w (o :: M) W → Calls P f args W (fun e W' => ∃ o', R e o' ∧ Sx w (o' :: M) W')) : Calls P f args W (fun e W' => ∃ o', R e o' ∧ Sx w (L.set i o') W') :=
  (c _ (h.perm (front_at hi))).mono fun e W' ⟨o', hr, hx⟩ => ⟨o', hr, hx.perm (back_at hi o')⟩
/-- .. with others laid ahead. -/
theorem Sx.frontN {w W : World} {L : List Ob} {o : Ob} {P : Program} {f : FuncId} {args : Array Value} {R : Ending → Ob → List Ob → Prop} (h : Sx w L W) (i : Nat) (hi : L[i]? = some o)
    (c : ∀ M, Sx w (o :: M) W → Calls P f args W (fun e W' => ∃ o' N, R e o' N ∧ Sx w (N ++ o' :: M) W')) : Calls P f args W (fun e W' => ∃ o' N, R e o' N ∧ Sx w (N ++ L.set i o') W') :=
  (c _ (h.perm (front_at hi))).mono fun e W' ⟨o', N, hr, hx⟩ => ⟨o', N, hr, hx.perm ((back_at hi o').append_left N)⟩
theorem Sx.calls {w W : World} {L L' : List Ent} {M : List Ob} {P : Program} {f : FuncId} {args : Array Value} {v : Value} (h : Sx w (L.map boxE ++ M) W)
    (c : ∀ E, Bx w (L ++ E) W → Calls P f args W (fun e W' => e = .returned v ∧ Bx w (L' ++ E) W')) : Calls P f args W (fun e W' => e = .returned v ∧ Sx w (L'.map boxE ++ M) W') := by
  obtain ⟨E, hx, hb⟩ := h.ents
  exact (c E hx).mono fun e W' ⟨he, hy⟩ => ⟨he, hb W' L' hy⟩
/-- What a call hands back, and the things behind it. -/
def Gets (v : Value) (w : World) (L : List Ob) (e : Ending) (W : World) : Prop := e = .returned v ∧ Sx w L W
/-- A call of a thing's: what it hands back, what the thing is behind it; whatever else there is. -/
def Mt (P : Program) (f : FuncId) (args : Array Value) (o : Ob) (v : Value) (o' : Ob) : Prop := ∀ (w V : World) (M : List Ob), Sx w (o :: M) V → Calls P f args V (Gets v w (o' :: M))
theorem Mt.at_ {P : Program} {f : FuncId} {args : Array Value} {o o' : Ob} {v : Value} (c : Mt P f args o v o') {w V : World} {L : List Ob} (h : Sx w L V) (i : Nat) (hi : L[i]? = some o) : Calls P f args V (Gets v w (L.set i o')) :=
  (c w V _ (h.perm (front_at hi))).mono fun e W ⟨he, hx⟩ => ⟨he, hx.perm (back_at hi o')⟩
end Go.Proofs.Ytcjfaegmbbpcaaa.Obs
