/-
  Things in memory, side by side: each is known by what is said of its own blocks; a call turns one of them, the others stay. (For every layer.)
-/
import Derived.Test.YtilkgjpgoogiiaaGreatWrdabJ17a
import Derived.Test.YtilkgjpgoogiiaaGreatSpnabJ21a
import Derived.Test.YtilkgjpgoogiiaaGreatSpnabJ48a
import Derived.Test.YtilkgjpgoogiiaaGreatSpnQXa
import Derived.Test.YtilkgjpgoogiiaaGreatSntabJ33a
import Derived.Lib.SmallJoins
import Derived.Deep.Slices
import Derived.Deep.Fields
import Derived.ProofKit
import Derived.LaidMore
import Derived.OpenShut
import Derived.Stop.Joined
set_option maxRecDepth 100000
set_option maxHeartbeats 16000000
set_option linter.unusedVariables false
set_option linter.unusedSimpArgs false
namespace Go.Proofs.YtilkgjpgoogiiaaGreat.Obs
open Go.RowKit Wd Bxs
structure Ob where
  P : List Nat → World → Prop
  blk : ∀ {F : List Nat} {W : World}, P F W → ∀ i ∈ F, ∃ t cs, Blk W i t cs
  far : ∀ {F : List Nat} {W W' : World}, P F W → (∀ i ∈ F, W'.heap[i]? = W.heap[i]?) → P F W'
theorem Ob.kept {o : Ob} {F : List Nat} {W W' : World} (h : o.P F W) (k : Kept W W') : o.P F W' := o.far h fun i hi => by
  obtain ⟨t, cs, hb⟩ := o.blk h i hi
  exact k.at_ hb.lt
def Sep : List Ob → List Nat → World → Prop
  | [], F, _ => F = []
  | o :: L, F, W => ∃ A B, F = A ++ B ∧ o.P A W ∧ Sep L B W
theorem Sep.blk : ∀ {L : List Ob} {F : List Nat} {W : World}, Sep L F W → ∀ i ∈ F, ∃ t cs, Blk W i t cs
  | [], F, W, h, i, hi => by rw [show F = [] from h] at hi; cases hi
  | o :: L, F, W, ⟨A, B, e, ha, hb⟩, i, hi => by
    rw [e] at hi
    rcases List.mem_append.1 hi with h | h
    · exact o.blk ha i h
    · exact Sep.blk hb i h
theorem Sep.far : ∀ {L : List Ob} {F : List Nat} {W W' : World}, Sep L F W → (∀ i ∈ F, W'.heap[i]? = W.heap[i]?) → Sep L F W'
  | [], F, W, W', h, _ => h
  | o :: L, F, W, W', ⟨A, B, e, ha, hb⟩, hs => by
    subst e
    exact ⟨A, B, rfl, o.far ha (fun i hi => hs i (List.mem_append_left _ hi)), Sep.far hb (fun i hi => hs i (List.mem_append_right _ hi))⟩
theorem Sep.kept {L : List Ob} {F : List Nat} {W W' : World} (h : Sep L F W) (k : Kept W W') : Sep L F W' := h.far fun i hi => by
  obtain ⟨t, cs, hb⟩ := h.blk i hi
  exact k.at_ hb.lt
theorem Sep.append : ∀ {L M : List Ob} {F : List Nat} {W : World}, Sep (L ++ M) F W ↔ ∃ A B, F = A ++ B ∧ Sep L A W ∧ Sep M B W
  | [], M, F, W => ⟨fun h => ⟨[], F, rfl, rfl, h⟩, fun ⟨A, B, e, ha, hb⟩ => by rw [show A = [] from ha] at e; rw [e]; exact hb⟩
  | o :: L, M, F, W => by
    constructor
    · rintro ⟨A, B, rfl, ha, hb⟩
      obtain ⟨C, D, rfl, hc, hd⟩ := (Sep.append (L := L)).1 hb
      exact ⟨A ++ C, D, (List.append_assoc _ _ _).symm, ⟨A, C, rfl, ha, hc⟩, hd⟩
    · rintro ⟨A, B, rfl, ⟨C, D, rfl, hc, hd⟩, hb⟩
      exact ⟨C, D ++ B, List.append_assoc _ _ _, hc, (Sep.append (L := L)).2 ⟨D, B, rfl, hd, hb⟩⟩
theorem Sep.perm {L M : List Ob} (p : L.Perm M) : ∀ {F : List Nat} {W : World}, Sep L F W → ∃ G, G.Perm F ∧ Sep M G W := by
  induction p with
  | nil => exact fun h => ⟨_, List.Perm.refl _, h⟩
  | cons x _ ih =>
    rintro F W ⟨A, B, rfl, ha, hb⟩
    obtain ⟨G, hg, hs⟩ := ih hb
    exact ⟨A ++ G, hg.append_left A, A, G, rfl, ha, hs⟩
  | swap x y l =>
    rintro F W ⟨A, B, rfl, ha, C, D, rfl, hc, hd⟩
    refine ⟨C ++ (A ++ D), ?_, C, A ++ D, rfl, hc, A, D, rfl, ha, hd⟩
    rw [← List.append_assoc, ← List.append_assoc]
    exact List.perm_append_comm.append_right D
  | trans _ _ ih1 ih2 =>
    intro F W h
    obtain ⟨G, hg, hs⟩ := ih1 h
    obtain ⟨K, hk, ht⟩ := ih2 hs
    exact ⟨K, hk.trans hg, ht⟩
structure Sx (w : World) (L : List Ob) (W : World) : Prop where
  K : Kept w W
  ex : ∃ F : List Nat, Sep L F W ∧ F.Nodup ∧ ∀ i ∈ F, w.heap.size ≤ i
section
variable {w W W' : World} {L M : List Ob} {o o' : Ob}
theorem Sx.nil (w : World) : Sx w [] w := ⟨Kept.refl _, [], rfl, List.nodup_nil, fun i h => by cases h⟩
theorem Sx.start (k : Kept w W) : Sx w [] W := ⟨k, [], rfl, List.nodup_nil, fun i h => by cases h⟩
theorem Sx.on (h : Sx w L W) (k : Kept W W') : Sx w L W' := by
  obtain ⟨F, hs, hn, hl⟩ := h.ex
  exact ⟨h.K.trans k, F, hs.kept k, hn, hl⟩
theorem Sx.perm (h : Sx w L W) (p : L.Perm M) : Sx w M W := by
  obtain ⟨F, hs, hn, hl⟩ := h.ex
  obtain ⟨G, hg, ht⟩ := hs.perm p
  exact ⟨h.K, G, ht, hg.nodup_iff.2 hn, fun i hi => hl i (hg.mem_iff.1 hi)⟩
theorem Sx.tail (h : Sx w (o :: L) W) : Sx w L W := by
  obtain ⟨F, ⟨A, B, rfl, ha, hb⟩, hn, hl⟩ := h.ex
  exact ⟨h.K, B, hb, (List.nodup_append.1 hn).2.1, fun i hi => hl i (List.mem_append_right _ hi)⟩
theorem Sx.swap {o2 : Ob} (h : Sx w (o :: o2 :: L) W) : Sx w (o2 :: o :: L) W := h.perm (List.Perm.swap _ _ _)
theorem Sx.drop (h : Sx w (L ++ M) W) : Sx w M W := by
  induction L with
  | nil => exact h
  | cons x l ih => exact ih (Sx.tail h)
theorem Sx.cut (h : Sx w (L ++ M) W) : Sx w L W := (h.perm List.perm_append_comm).drop
theorem Sx.turn (h : Sx w (o :: M) W) : ∃ F, o.P F W ∧ F.Nodup ∧ (∀ i ∈ F, w.heap.size ≤ i ∧ i < W.heap.size) ∧
    ∀ W' L' F', Sep L' F' W' → F'.Nodup → (∀ i ∈ F', i ∈ F ∨ W.heap.size ≤ i) → But (fun i => i ∈ F) W W' → Sx w (L' ++ M) W' := by
  obtain ⟨F, ⟨A, B, rfl, ha, hb⟩, hn, hl⟩ := h.ex
  obtain ⟨hA, hB, hd⟩ := List.nodup_append.1 hn
  refine ⟨A, ha, hA, fun i hi => ⟨hl i (List.mem_append_left _ hi), ?_⟩, fun W' L' F' hs hn' hf hk => ?_⟩
  · obtain ⟨t, cs, hb⟩ := o.blk ha i hi
    exact hb.lt
  · have hlt : ∀ i ∈ B, i < W.heap.size := fun i hi => by
      obtain ⟨t, cs, hx⟩ := hb.blk i hi
      exact hx.lt
    have hb' : Sep M B W' := hb.far fun i hi => hk.block i (hlt i hi) (fun e => hd i e i hi rfl)
    refine ⟨h.K.then_ hk (fun i e => hl i (List.mem_append_left _ e)), F' ++ B, Sep.append.2 ⟨F', B, rfl, hs, hb'⟩, ?_, fun i hi => ?_⟩
    · refine List.nodup_append.2 ⟨hn', hB, fun a ha' b hb2 e => ?_⟩
      subst e
      rcases hf a ha' with h1 | h1
      · exact hd a h1 a hb2 rfl
      · have := hlt a hb2; omega
    · rcases List.mem_append.1 hi with h1 | h1
      · rcases hf i h1 with h2 | h2
        · exact hl i (List.mem_append_left _ h2)
        · exact Nat.le_trans h.K.size h2
      · exact hl i (List.mem_append_right _ h1)
theorem Sx.lay {F' : List Nat} {L' : List Ob} (h : Sx w M W) (hk : Kept W W') (hs : Sep L' F' W') (hn : F'.Nodup) (hf : ∀ i ∈ F', W.heap.size ≤ i) : Sx w (L' ++ M) W' := by
  obtain ⟨B, hb, hB, hl⟩ := h.ex
  have hlt : ∀ i ∈ B, i < W.heap.size := fun i hi => by
    obtain ⟨t, cs, hx⟩ := hb.blk i hi
    exact hx.lt
  refine ⟨h.K.trans hk, F' ++ B, Sep.append.2 ⟨F', B, rfl, hs, hb.kept hk⟩, ?_, fun i hi => ?_⟩
  · refine List.nodup_append.2 ⟨hn, hB, fun a ha' b hb2 e => ?_⟩
    subst e
    have := hf a ha'; have := hlt a hb2; omega
  · rcases List.mem_append.1 hi with h1 | h1
    · exact Nat.le_trans h.K.size (hf i h1)
    · exact hl i h1
theorem split_at {i : Nat} (hi : L[i]? = some o) : L = L.take i ++ o :: L.drop (i + 1) ∧ ∀ x : Ob, L.set i x = L.take i ++ x :: L.drop (i + 1) := by
  have hl : i < L.length := (List.getElem?_eq_some_iff.1 hi).1
  have e : L[i] = o := (List.getElem?_eq_some_iff.1 hi).2
  refine ⟨?_, fun x => ?_⟩
  · conv => lhs; rw [← List.take_append_drop i L, List.drop_eq_getElem_cons hl, e]
  · rw [List.set_eq_take_append_cons_drop, if_pos hl]
theorem front_at {i : Nat} (hi : L[i]? = some o) : L.Perm (o :: (L.take i ++ L.drop (i + 1))) := by
  conv => lhs; rw [(split_at hi).1]
  exact List.perm_middle
theorem back_at {i : Nat} (hi : L[i]? = some o) (x : Ob) : (x :: (L.take i ++ L.drop (i + 1))).Perm (L.set i x) := by
  rw [(split_at hi).2 x]
  exact List.perm_middle.symm
theorem Sx.at_ (h : Sx w L W) (i : Nat) (hi : L[i]? = some o) : ∃ F, o.P F W ∧ F.Nodup ∧ (∀ i ∈ F, w.heap.size ≤ i ∧ i < W.heap.size) ∧
    ∀ W' o' F', o'.P F' W' → F'.Nodup → (∀ i ∈ F', i ∈ F ∨ W.heap.size ≤ i) → But (fun i => i ∈ F) W W' → Sx w (L.set i o') W' := by
  obtain ⟨F, hp, hn, hl, ht⟩ := (h.perm (front_at hi)).turn
  refine ⟨F, hp, hn, hl, fun W' o' F' hp' hn' hf hk => ?_⟩
  exact (ht W' [o'] F' ⟨F', [], (List.append_nil _).symm, hp', rfl⟩ hn' hf hk).perm (back_at hi o')
theorem Sx.get (h : Sx w L W) (i : Nat) (hi : L[i]? = some o) : ∃ F, o.P F W := by
  obtain ⟨F, hp, _⟩ := h.at_ i hi
  exact ⟨F, hp⟩
theorem Sx.as (h : Sx w L W) (i : Nat) (hi : L[i]? = some o) (e : ∀ F, o.P F W → o'.P F W) : Sx w (L.set i o') W := by
  obtain ⟨F, hp, hn, hl, ht⟩ := h.at_ i hi
  exact ht W o' F (e F hp) hn (fun i hi => .inl hi) (But.refl _ _)
end
/-! Kinds of things. -/
def box (g : Nat) (t : TypeId) (cs : Array Value) : Ob where
  P F W := F = [g] ∧ Blk W g t cs
  blk := fun ⟨e, h⟩ i hi => by rw [e] at hi; rw [List.mem_singleton.1 hi]; exact ⟨t, cs, h⟩
  far := fun ⟨e, h⟩ hs => ⟨e, h.at_ (hs g (by rw [e]; exact List.mem_singleton.2 rfl))⟩
def join (L : List Ob) : Ob where
  P F W := Sep L F W
  blk := fun h => h.blk
  far := fun h => h.far
def some_ {α : Type} (f : α → Ob) : Ob where
  P F W := ∃ x, (f x).P F W
  blk := fun ⟨x, h⟩ => (f x).blk h
  far := fun ⟨x, h⟩ hs => ⟨x, (f x).far h hs⟩
section
variable {w W W' : World} {L M : List Ob} {o o' : Ob}
theorem Sx.join_ : Sx w (join L :: M) W ↔ Sx w (L ++ M) W := by
  constructor
  · rintro ⟨k, F, ⟨A, B, rfl, ha, hb⟩, hn, hl⟩
    exact ⟨k, A ++ B, Sep.append.2 ⟨A, B, rfl, ha, hb⟩, hn, hl⟩
  · rintro ⟨k, F, hs, hn, hl⟩
    obtain ⟨A, B, rfl, ha, hb⟩ := Sep.append.1 hs
    exact ⟨k, A ++ B, ⟨A, B, rfl, ha, hb⟩, hn, hl⟩
theorem Sx.some_iff {α : Type} {f : α → Ob} : Sx w (some_ f :: M) W ↔ ∃ x, Sx w (f x :: M) W := by
  constructor
  · rintro ⟨k, F, ⟨A, B, rfl, ⟨x, ha⟩, hb⟩, hn, hl⟩
    exact ⟨x, k, A ++ B, ⟨A, B, rfl, ha, hb⟩, hn, hl⟩
  · rintro ⟨x, k, F, ⟨A, B, rfl, ha, hb⟩, hn, hl⟩
    exact ⟨k, A ++ B, ⟨A, B, rfl, ⟨x, ha⟩, hb⟩, hn, hl⟩
theorem Sx.box_ {g : Nat} {t : TypeId} {cs : Array Value} (h : Sx w L W) (i : Nat) (hi : L[i]? = some (box g t cs)) : Blk W g t cs := by
  obtain ⟨F, _, hb⟩ := h.get i hi
  exact hb
theorem Sx.set_ {g : Nat} {t : TypeId} {cs cs' : Array Value} (h : Sx w L W) (i : Nat) (hi : L[i]? = some (box g t cs)) (hb : Blk W' g t cs') (hk : But (fun k => k = g) W W') : Sx w (L.set i (box g t cs')) W' := by
  obtain ⟨F, ⟨rfl, _⟩, hn, _, ht⟩ := h.at_ i hi
  exact ht W' (box g t cs') [g] ⟨rfl, hb⟩ hn (fun i hi => .inl hi) (hk.mono fun i _ e => List.mem_singleton.2 e)
theorem Sx.cell_ {g : Nat} {t : TypeId} {cs : Array Value} (h : Sx w L W) (i : Nat) (hi : L[i]? = some (box g t cs)) (k : Nat) (u : Value) : Sx w (L.set i (box g t (cs.setIfInBounds k u))) (W.setCell ⟨g, k, none⟩ u) :=
  h.set_ i hi ((h.box_ i hi).set_ k u) ((But.refl (fun j => j = g) W).setCell (p := ⟨g, k, none⟩) rfl u)
theorem Sx.new (h : Sx w L W) (t : TypeId) (cs : Array Value) : Sx w (box W.heap.size t cs :: L) (W.alloc (.cells cs t)) :=
  h.lay (L' := [box W.heap.size t cs]) (F' := [W.heap.size]) ((Kept.refl _).alloc _) ⟨[W.heap.size], [], rfl, ⟨rfl, Blk.new _ _ _⟩, rfl⟩ (List.nodup_cons.2 ⟨List.not_mem_nil, List.nodup_nil⟩) (fun i hi => by rw [List.mem_singleton.1 hi]; exact Nat.le_refl _)
theorem mem_other {i j : Nat} {o2 : Ob} (hj : L[j]? = some o2) (hij : i ≠ j) : o2 ∈ L.take i ++ L.drop (i + 1) := by
  obtain ⟨hl, he⟩ := List.getElem?_eq_some_iff.1 hj
  rcases Nat.lt_or_gt_of_ne hij with h | h
  · refine List.mem_append_right _ (List.mem_iff_getElem?.2 ⟨j - (i + 1), ?_⟩)
    rw [List.getElem?_drop, show i + 1 + (j - (i + 1)) = j by omega]
    exact hj
  · refine List.mem_append_left _ (List.mem_iff_getElem?.2 ⟨j, ?_⟩)
    rw [List.getElem?_take_of_lt h]
    exact hj
theorem Sx.two {i j : Nat} {o2 : Ob} (h : Sx w L W) (hi : L[i]? = some o) (hj : L[j]? = some o2) (hij : i ≠ j) : ∃ R, L.Perm (o :: o2 :: R) ∧ Sx w (o :: o2 :: R) W := by
  obtain ⟨s, t, e⟩ := List.append_of_mem (mem_other hj hij)
  have p : L.Perm (o :: o2 :: (s ++ t)) := by
    refine (front_at hi).trans (List.Perm.cons o ?_)
    rw [e]
    exact List.perm_middle
  exact ⟨s ++ t, p, h.perm p⟩
end
/-! Rows of boxes: contracts over them are contracts over things. -/
theorem range_take {α : Type} : ∀ (n : Nat) (K : List α), (List.range n).filterMap (fun k => K[k]?) = K.take n
  | 0, K => rfl
  | n + 1, [] => by simp
  | n + 1, x :: K => by
    rw [List.range_succ_eq_map, List.filterMap_cons_some (f := fun k => (x :: K)[k]?) (a := 0) (b := x) rfl, List.filterMap_map]
    show x :: List.filterMap (fun k => K[k]?) (List.range n) = x :: K.take n
    rw [range_take n K]
theorem Sx.sel {w W : World} {K : List Ob} (h : Sx w K W) (n : Nat) (ks rest : List Nat) (hp : (ks ++ rest).Perm (List.range n)) : Sx w ((ks.filterMap fun k => K[k]?) ++ K.drop n) W := by
  have e := range_take n K
  have p := hp.filterMap (fun k => K[k]?)
  rw [e, List.filterMap_append] at p
  have h1 : Sx w (((ks.filterMap fun k => K[k]?) ++ (rest.filterMap fun k => K[k]?)) ++ K.drop n) W := h.perm (by
    conv => lhs; rw [← List.take_append_drop n K]
    exact p.symm.append_right _)
  have q : (((ks.filterMap fun k => K[k]?) ++ (rest.filterMap fun k => K[k]?)) ++ K.drop n).Perm ((rest.filterMap fun k => K[k]?) ++ ((ks.filterMap fun k => K[k]?) ++ K.drop n)) := by
    rw [← List.append_assoc]
    exact List.perm_append_comm.append_right _
  exact (h1.perm q).drop
theorem Sx.front {w W : World} {L : List Ob} {o : Ob} {P : Program} {f : FuncId} {args : Array Value} {R : Ending → Ob → Prop} (h : Sx w L W) (i : Nat) (hi : L[i]? = some o)
    (c : ∀ M, Sx w (o :: M) W → Calls P f args W (fun e W' => ∃ o', R e o' ∧ Sx w (o' :: M) W')) : Calls P f args W (fun e W' => ∃ o', R e o' ∧ Sx w (L.set i o') W') :=
  (c _ (h.perm (front_at hi))).mono fun e W' ⟨o', hr, hx⟩ => ⟨o', hr, hx.perm (back_at hi o')⟩
def Gets (v : Value) (w : World) (L : List Ob) (e : Ending) (W : World) : Prop := e = .returned v ∧ Sx w L W
def Mt (P : Program) (f : FuncId) (args : Array Value) (o : Ob) (v : Value) (o' : Ob) : Prop := ∀ (w V : World) (M : List Ob), Sx w (o :: M) V → Calls P f args V (Gets v w (o' :: M))
theorem Mt.at_ {P : Program} {f : FuncId} {args : Array Value} {o o' : Ob} {v : Value} (c : Mt P f args o v o') {w V : World} {L : List Ob} (h : Sx w L V) (i : Nat) (hi : L[i]? = some o) : Calls P f args V (Gets v w (L.set i o')) :=
  (c w V _ (h.perm (front_at hi))).mono fun e W ⟨he, hx⟩ => ⟨he, hx.perm (back_at hi o')⟩
end Go.Proofs.YtilkgjpgoogiiaaGreat.Obs
namespace Go.Proofs.YtilkgjpgoogiiaaGreat.Ths
open Go.RowKit Wd Bxs Obs
open Cd (Cod Rw Lay Elt flat)
abbrev ptr (g : Nat) : Value := .pointer (some ⟨g, 0, none⟩)
theorem mem_own {A : Option Addr} {i : Nat} : i ∈ (Cd.own A).toList ↔ Cd.own A = some i := by
  cases h : Cd.own A <;> simp [eq_comm]
theorem own_nodup (A : Option Addr) : (Cd.own A).toList.Nodup := by cases Cd.own A <;> simp
def rowO {α : Type} (C : Cod α) (t : TypeId) (A : Option Addr) (n c : Nat) (l : List α) : Ob where
  P F W := F = (Cd.own A).toList ∧ Rw C t W A n c l
  blk := fun ⟨e, h⟩ i hi => by
    rw [e] at hi
    rcases h.form with ⟨rfl, _⟩ | ⟨g, cur, rfl, hb, _⟩
    · cases hi
    · have := mem_own.1 hi; injection this with this; subst this; exact ⟨_, _, hb⟩
  far := fun ⟨e, h⟩ hs => ⟨e, h.same_ fun k hk => hs k (by rw [e]; exact mem_own.2 hk)⟩
section
variable {α : Type} {C : Cod α} {P : Program} {S t : TypeId} {w V W W1 : World} {L M : List Ob}
theorem row_nil (h : Sx w L V) : Sx w (rowO C t none 0 0 [] :: L) V :=
  h.lay (L' := [rowO C t none 0 0 []]) (F' := []) (Kept.refl _) ⟨[], [], rfl, ⟨rfl, Rw.nil _⟩, rfl⟩ List.nodup_nil (fun i hi => by cases hi)
theorem row_at {A : Option Addr} {n c : Nat} {l : List α} (h : Sx w L V) (i : Nat) (hi : L[i]? = some (rowO C t A n c l)) : Rw C t V A n c l := by
  obtain ⟨F, _, hr⟩ := h.get i hi
  exact hr
theorem wpList_sxE (E : Elt P C S t) {ops : Array Oper} {rest : List Oper} {o : Oper} {a : Act} {Q : Exit → Act → World → Prop} (hgd : o.guard = none) (s x : Operand)
    (ho : o.op = .call { callee := .builtin .append, args := #[s, x], argTypes := #[S, S] }) {A : Option Addr} {c : Nat} {l : List α} (y : α) (hs : a.eval s = .slice A l.length c) (h : Sx w (rowO C t A l.length c l :: M) W) (hW : W1 = W.alloc (.cells (C.enc y).toArray t)) (hb : l.length ≤ 100000)
    (hx : a.eval x = .slice (some ⟨W.heap.size, 0, none⟩) 1 1)
    (k : ∀ A' c' w', Hid (Sx w (rowO C t A' (l ++ [y]).length c' (l ++ [y]) :: M) w') → wpList P ops Q rest (a.put o.dst (.slice A' (l ++ [y]).length c')) w') : wpList P ops Q (o :: rest) a W1 := by
  obtain ⟨F, ⟨rfl, hrow⟩, hn, hl, ht⟩ := h.turn
  subst hW
  have hone : Rw C t (W.alloc (.cells (C.enc y).toArray t)) (some ⟨W.heap.size, 0, none⟩) 1 1 [y] := Rw.mk' rfl (Blk.new _ _ _) (by omega) (by unfold maxLen; omega) (by simp [C.len]) (by simp only [flat, List.append_nil]; exact List.take_of_length_le (by rw [C.len]; omega))
  have hkA := (Kept.refl W).alloc (.cells (C.enc y).toArray t)
  obtain ⟨v', w', hr, h2, h3, h4, h5⟩ := run_append_own_at (P := P) (W.alloc (.cells (C.enc y).toArray t)) 0 S o.type t E.i E.z C.size E.bytes E.und E.info E.zero E.size E.byt E.zs C.pos
      (.slice A l.length c) l.length (flat C l) (hrow.kept hkA).2 ⟨W.heap.size, 0, none⟩ 1 1 (flat C [y]) (Cd.flat_length [y]) (Cd.news_row (A := none) hone) (Cd.flat_one _) (by unfold maxLen; omega)
      (by have := E.few; calc (l.length + 1) * E.bytes ≤ 1000000 * 1000 := Nat.mul_le_mul (by omega) this
            _ ≤ 140737488355328 := by decide) (Nat.zero_le _)
  have hv : Lay C t w w.heap.size w' v' (l ++ [y]) := Lay.grow (N := [y]) rfl rfl (fun i hi => (hl i (mem_own.2 hi)).1) (h.K.trans hkA) (Nat.le_refl _) (by have := h.K.size; simp; omega) h2 h3 h5
  obtain ⟨A', c', rfl, hr', hf', hk'⟩ := hv
  rw [Cd.own_block] at h3 h5
  rw [Cd.own_block] at h5
  refine Lib.wpList_append_run _ hgd s x _ _ ho _ _ hs hx _ _ hr (k A' c' w' (Lib.hid (ht w' [rowO C t A' (l ++ [y]).length c' (l ++ [y])] (Cd.own A').toList ⟨_, [], (List.append_nil _).symm, ⟨rfl, hr'⟩, rfl⟩ (own_nodup A') (fun i hi => ?_) ?_)))
  · rcases h5 with e | e
    · exact .inl (mem_own.2 (by rw [← e]; exact mem_own.1 hi))
    · right
      have := mem_own.1 hi
      rw [e] at this
      injection this with this
      subst this
      rw [World.size_alloc]
      omega
  · exact (hkA.but (fun i => i ∈ (Cd.own A).toList)).grown h3 (fun i e _ => mem_own.2 e)
theorem step_sxE (E : Elt P C S t) {ops : Array Oper} {o : Oper} {a : Act} {K : Act → World → Prop} {Q : Exit → Act → World → Prop} {B : Prop} (hgd : o.guard = none) (s x : Operand)
    (ho : o.op = .call { callee := .builtin .append, args := #[s, x], argTypes := #[S, S] }) {A : Option Addr} {c : Nat} {l : List α} (y : α) (hs : a.eval s = .slice A l.length c) (h : Sx w (rowO C t A l.length c l :: M) W) (hW : W1 = W.alloc (.cells (C.enc y).toArray t)) (hb : l.length ≤ 100000)
    (hx : a.eval x = .slice (some ⟨W.heap.size, 0, none⟩) 1 1)
    (k : ∀ A' c' w', Hid (Sx w (rowO C t A' (l ++ [y]).length c' (l ++ [y]) :: M) w') → K (a.put o.dst (.slice A' (l ++ [y]).length c')) w') : if Region.wanted o (yielded ops a.tmps) = true then Oper.wp P o a W1 K Q else B := by
  have hwt : Region.wanted o (yielded ops a.tmps) = true := by simp [Region.wanted, hgd]
  rw [if_pos hwt]
  obtain ⟨F, ⟨rfl, hrow⟩, hn, hl, ht⟩ := h.turn
  subst hW
  have hone : Rw C t (W.alloc (.cells (C.enc y).toArray t)) (some ⟨W.heap.size, 0, none⟩) 1 1 [y] := Rw.mk' rfl (Blk.new _ _ _) (by omega) (by unfold maxLen; omega) (by simp [C.len]) (by simp only [flat, List.append_nil]; exact List.take_of_length_le (by rw [C.len]; omega))
  have hkA := (Kept.refl W).alloc (.cells (C.enc y).toArray t)
  obtain ⟨v', w', hr, h2, h3, h4, h5⟩ := run_append_own_at (P := P) (W.alloc (.cells (C.enc y).toArray t)) 0 S o.type t E.i E.z C.size E.bytes E.und E.info E.zero E.size E.byt E.zs C.pos
      (.slice A l.length c) l.length (flat C l) (hrow.kept hkA).2 ⟨W.heap.size, 0, none⟩ 1 1 (flat C [y]) (Cd.flat_length [y]) (Cd.news_row (A := none) hone) (Cd.flat_one _) (by unfold maxLen; omega)
      (by have := E.few; calc (l.length + 1) * E.bytes ≤ 1000000 * 1000 := Nat.mul_le_mul (by omega) this
            _ ≤ 140737488355328 := by decide) (Nat.zero_le _)
  have hv : Lay C t w w.heap.size w' v' (l ++ [y]) := Lay.grow (N := [y]) rfl rfl (fun i hi => (hl i (mem_own.2 hi)).1) (h.K.trans hkA) (Nat.le_refl _) (by have := h.K.size; simp; omega) h2 h3 h5
  obtain ⟨A', c', rfl, hr', hf', hk'⟩ := hv
  rw [Cd.own_block] at h3 h5
  rw [Cd.own_block] at h5
  refine Lib.wp_append_run _ s x _ _ ho _ _ hs hx _ _ hr (k A' c' w' (Lib.hid (ht w' [rowO C t A' (l ++ [y]).length c' (l ++ [y])] (Cd.own A').toList ⟨_, [], (List.append_nil _).symm, ⟨rfl, hr'⟩, rfl⟩ (own_nodup A') (fun i hi => ?_) ?_)))
  · rcases h5 with e | e
    · exact .inl (mem_own.2 (by rw [← e]; exact mem_own.1 hi))
    · right
      have := mem_own.1 hi
      rw [e] at this
      injection this with this
      subst this
      rw [World.size_alloc]
      omega
  · exact (hkA.but (fun i => i ∈ (Cd.own A).toList)).grown h3 (fun i e _ => mem_own.2 e)
end
def inC : Cod Int where
  enc n := [.int .i64 n]
  size := 1
  pos := by decide
  len _ := rfl
  one p u h := by
    simp only [List.mem_cons, List.not_mem_nil, or_false] at h
    rw [h]; rfl
  inj a b h := by
    simp only [List.cons.injEq, Value.int.injEq, true_and, and_true] at h
    exact h
theorem info_in : (Tryz.prog.info? 3).map (fun i => (i.zero, i.size, i.bytes)) = some (some (.int .i64 0), 1, 8) := by kernel_rfl
noncomputable def inE : Elt Tryz.prog inC 55 3 :=
  { i := (info_parts info_in).choose
    z := .int .i64 0
    bytes := 8
    und := Tryz.underlying55
    info := (info_parts info_in).choose_spec.1
    zero := (info_parts info_in).choose_spec.2.1
    size := (info_parts info_in).choose_spec.2.2.1
    byt := (info_parts info_in).choose_spec.2.2.2
    zs := rfl
    few := by decide }
def inO (A : Option Addr) (n c : Nat) (l : List Int) : Ob := rowO inC 3 A n c l
theorem in_cell {w : World} {g n c k : Nat} {l : List Int} (h : Rw inC 3 w (some ⟨g, 0, none⟩) n c l) (hk : k < n) : w.cell? ⟨g, k, none⟩ = some (.int .i64 (Cd.at_ l k)) := by
  have := h.cell hk (j := 0) (by decide)
  rwa [show k * inC.size + 0 = k from Nat.mul_one k] at this
theorem box_row {α : Type} {C : Cd.Cod α} {t : TypeId} {w W : World} {M : List Ob} {g n : Nat} {cs : Array Value} (l : List α) (hc : cs.toList = Cd.flat C l) (hl : l.length = n) (hn : n ≤ 1000) (h : Sx w (box g t cs :: M) W) : Sx w (rowO C t (some ⟨g, 0, none⟩) n n l :: M) W :=
  h.as 0 rfl (o' := rowO C t (some ⟨g, 0, none⟩) n n l) fun F ⟨e, hb⟩ => ⟨e, Cd.Rw.mk' hl hb (Nat.le_refl _) (by unfold maxLen; omega) (by have : cs.toList.length = _ := congrArg List.length hc; rw [Cd.flat_length, hl] at this; exact this) (by rw [hc]; exact List.take_of_length_le (by rw [Cd.flat_length, hl]; exact Nat.le_refl _))⟩
theorem rowI {w V : World} {M : List Ob} (l : List Int) (cs : Array Value) (n : Nat) (hc : cs.toList = Cd.flat inC l) (hl : l.length = n) (hn : n ≤ 1000) (h : Sx w M V) : Sx w (inO (some ⟨V.heap.size, 0, none⟩) n n l :: M) (V.alloc (.cells cs 3)) := box_row l hc hl hn (h.new 3 cs)
theorem over {w V W : World} {L M : List Ob} (h : Sx w L V) (k : Sx V M W) : Sx w (M ++ L) W := by
  obtain ⟨F, hs, hn, hl⟩ := k.ex
  exact h.lay k.K hs hn hl
end Go.Proofs.YtilkgjpgoogiiaaGreat.Ths
namespace Go.Proofs.YtilkgjpgoogiiaaGreat.Ths
open Go.RowKit Wd Bxs Obs
open Cd (Cod Rw Lay)
open SntM (Pk fly eli putErr putL putTop dropL getP getB)
open Snt (pkC pkV pkA PRow)
open SpnM (R addErr addTo cutErr cutTo has next)
theorem mem_ownS {A : Option Addr} {i : Nat} : i ∈ (Spn.own A).toList ↔ Spn.own A = some i := by
  cases h : Spn.own A <;> simp [eq_comm]
theorem ownS_nodup (A : Option Addr) : (Spn.own A).toList.Nodup := by cases Spn.own A <;> simp
def rngO (A : Option Addr) (n c : Nat) (l : List R) : Ob where
  P F W := F = (Spn.own A).toList ∧ Spn.Row W A n c l
  blk := fun ⟨e, h⟩ i hi => by
    rw [e] at hi
    rcases h.form with ⟨rfl, _⟩ | ⟨g, cur, rfl, hb, _⟩
    · cases hi
    · have := mem_ownS.1 hi; injection this with this; subst this; exact ⟨_, _, hb⟩
  far := fun ⟨e, h⟩ hs => ⟨e, h.same_ fun k hk => hs k (by rw [e]; exact mem_ownS.2 hk)⟩
def setO (p room : Nat) (l : List R) : Ob where
  P F W := ∃ A c, F = p :: (Spn.own A).toList ∧ Spn.SetAt W p A c room l
  blk := fun ⟨A, c, e, h⟩ i hi => by
    rw [e] at hi
    rcases List.mem_cons.1 hi with rfl | hi
    · exact ⟨_, _, h.blk⟩
    · rcases h.row.form with ⟨rfl, _⟩ | ⟨g, cur, rfl, hb, _⟩
      · cases hi
      · have := mem_ownS.1 hi; injection this with this; subst this; exact ⟨_, _, hb⟩
  far := fun ⟨A, c, e, h⟩ hs => ⟨A, c, e, h.blk.at_ (hs p (by rw [e]; exact List.mem_cons_self)), h.row.same_ (fun k hk => hs k (by rw [e]; exact List.mem_cons_of_mem _ (mem_ownS.2 hk))), h.good, h.room1, h.fits⟩
theorem setO_nd {p c room : Nat} {A : Option Addr} {l : List R} {W : World} (h : Spn.SetAt W p A c room l) : (p :: (Spn.own A).toList).Nodup := by
  refine List.nodup_cons.2 ⟨fun hi => ?_, ownS_nodup A⟩
  rcases h.row.form with ⟨rfl, _⟩ | ⟨g, cur, rfl, hb, _⟩
  · cases hi
  · have := mem_ownS.1 hi
    injection this with this
    subst this
    exact hb.ne_ h.blk (by decide) rfl
def rsetO (p room : Nat) (l : List R) : Ob where
  P F W := ∃ A c, F = p :: (Spn.own A).toList ∧ Spn.RefAt W p A c room l
  blk := fun ⟨A, c, e, h⟩ i hi => by
    rw [e] at hi
    rcases List.mem_cons.1 hi with rfl | hi
    · exact ⟨_, _, h.blk⟩
    · rcases h.row.form with ⟨rfl, _⟩ | ⟨g, cur, rfl, hb, _⟩
      · cases hi
      · have := mem_ownS.1 hi; injection this with this; subst this; exact ⟨_, _, hb⟩
  far := fun ⟨A, c, e, h⟩ hs => ⟨A, c, e, h.blk.at_ (hs p (by rw [e]; exact List.mem_cons_self)), h.row.same_ (fun k hk => hs k (by rw [e]; exact List.mem_cons_of_mem _ (mem_ownS.2 hk))), h.good, h.room1, h.fits⟩
theorem rsetO_nd {p c room : Nat} {A : Option Addr} {l : List R} {W : World} (h : Spn.RefAt W p A c room l) : (p :: (Spn.own A).toList).Nodup := by
  refine List.nodup_cons.2 ⟨fun hi => ?_, ownS_nodup A⟩
  rcases h.row.form with ⟨rfl, _⟩ | ⟨g, cur, rfl, hb, _⟩
  · cases hi
  · have := mem_ownS.1 hi
    injection this with this
    subst this
    exact hb.ne_ h.blk (by decide) rfl
def logO (p room : Nat) (last : Int) (l : List Pk) : Ob where
  P F W := ∃ g, F = [p, g] ∧ Snt.LogIs W p g room last l
  blk := fun ⟨g, e, c, s, X, es, h, _⟩ i hi => by
    rw [e] at hi
    rcases List.mem_cons.1 hi with rfl | hi
    · exact ⟨_, _, h.blk⟩
    · rw [List.mem_singleton.1 hi]
      rcases h.row.form with ⟨e1, _⟩ | ⟨g', cur, e1, hb, _⟩
      · cases e1
      · injection e1 with e1; injection e1 with e1; subst e1; exact ⟨_, _, hb⟩
  far := fun {F W W'} ⟨g, e, c, s, X, es, h, hr⟩ hs => ⟨g, e, c, s, X, es, ⟨h.blk.at_ (hs p (by rw [e]; exact List.mem_cons_self)), h.row.same_ (fun k hk => by
    injection hk with hk; subst hk
    exact hs g (by rw [e]; exact List.mem_cons_of_mem _ List.mem_cons_self)), h.ring, h.st, h.ok⟩, hr⟩
def rlogO (p room : Nat) (last : Int) (l : List Pk) : Ob where
  P F W := ∃ A c, F = p :: (Cd.own A).toList ∧ Snt.RefAt W p room last l A c
  blk := fun ⟨A, c, e, h⟩ i hi => by
    rw [e] at hi
    rcases List.mem_cons.1 hi with rfl | hi
    · exact ⟨_, _, h.blk⟩
    · rcases h.row.form with ⟨rfl, _⟩ | ⟨g, cur, rfl, hb, _⟩
      · cases hi
      · have := mem_own.1 hi; injection this with this; subst this; exact ⟨_, _, hb⟩
  far := fun ⟨A, c, e, h⟩ hs => ⟨A, c, e, h.blk.at_ (hs p (by rw [e]; exact List.mem_cons_self)), h.row.same_ (fun k hk => hs k (by rw [e]; exact List.mem_cons_of_mem _ (mem_own.2 hk))), h.good⟩
theorem rlogO_nd {p c room : Nat} {A : Option Addr} {last : Int} {l : List Pk} {W : World} (h : Snt.RefAt W p room last l A c) : (p :: (Cd.own A).toList).Nodup :=
  List.nodup_cons.2 ⟨fun hi => h.ne p (mem_own.1 hi) rfl, own_nodup A⟩
theorem log_nd {W : World} {p g room : Nat} {last : Int} {l : List Pk} (h : Snt.LogIs W p g room last l) : [p, g].Nodup :=
  List.nodup_cons.2 ⟨fun hi => h.plt.2.2 (List.mem_singleton.1 hi), List.nodup_cons.2 ⟨List.not_mem_nil, List.nodup_nil⟩⟩
section
variable {w V : World} {L : List Ob} {p room : Nat} {last : Int} {l l' : List R} {m m' : List Pk} {f : FuncId} {args : Array Value} {v : Value} {n : Int}
theorem set_did (h : Sx w L V) (i : Nat) (hi : L[i]? = some (setO p room l)) (c : ∀ A c, Spn.SetAt V p A c room l → Calls Tryz.prog f args V (Spn.Did p A room l' n V)) : Calls Tryz.prog f args V (Gets (.int .i64 n) w (L.set i (setO p room l'))) := by
  obtain ⟨F, ⟨A, cc, rfl, hs⟩, hn, hl, ht⟩ := h.at_ i hi
  refine (c A cc hs).mono ?_
  rintro e W' ⟨rfl, A', c', hs', hb, hf⟩
  refine ⟨rfl, ht W' (setO p room l') (p :: (Spn.own A').toList) ⟨A', c', rfl, hs'⟩ (setO_nd hs') (fun k hk => ?_) (hb.mono fun k _ e => ?_)⟩
  · rcases List.mem_cons.1 hk with rfl | hk
    · exact .inl List.mem_cons_self
    · rcases hf k (mem_ownS.1 hk) with h1 | h1
      · exact .inl (List.mem_cons_of_mem _ (mem_ownS.2 h1))
      · exact .inr h1
  · rcases e with rfl | e
    · exact List.mem_cons_self
    · exact List.mem_cons_of_mem _ (mem_ownS.2 e)
theorem set_sees (h : Sx w L V) (i : Nat) (hi : L[i]? = some (setO p room l)) (c : ∀ A c, Spn.SetAt V p A c room l → Calls Tryz.prog f args V (fun e W => e = .returned v ∧ Kept V W)) : Calls Tryz.prog f args V (Gets v w L) := by
  obtain ⟨F, ⟨A, cc, rfl, hs⟩⟩ := h.get i hi
  exact (c A cc hs).mono fun e W' ⟨he, hk⟩ => ⟨he, h.on hk⟩
theorem set_add (h : Sx w L V) (i : Nat) (hi : L[i]? = some (setO p room l)) (lo hi2 : Int) : Calls Tryz.prog 97 #[ptr p, .int .i64 lo, .int .i64 hi2] V (Gets (.int .i64 (addErr room l lo hi2)) w (L.set i (setO p room (addTo room l lo hi2)))) :=
  set_did h i hi (fun A c hs => Spn.add_any p c room A l lo hi2 V hs)
theorem set_cut (h : Sx w L V) (i : Nat) (hi : L[i]? = some (setO p room l)) (b : Int) : Calls Tryz.prog 96 #[ptr p, .int .i64 b] V (Gets (.int .i64 (cutErr b)) w (L.set i (setO p room (cutTo l b)))) :=
  set_did h i hi (fun A c hs => Spn.cut_any p c room A l b V hs)
theorem set_copy (h : Sx w L V) (i : Nat) (hi : L[i]? = some (setO p room l)) : Calls Tryz.prog 112 #[ptr p] V (fun e W => ∃ q, e = .returned (ptr q) ∧ Sx w (setO q room l :: L) W) := by
  obtain ⟨F, ⟨A, cc, rfl, hs⟩⟩ := h.get i hi
  refine (Spn.copy_set p cc room A l V hs).mono ?_
  rintro e W' ⟨q, B, d, rfl, hs', hk, hq, hB⟩
  refine ⟨q, rfl, h.lay (L' := [setO q room l]) (F' := q :: (Spn.own B).toList) hk ⟨_, [], (List.append_nil _).symm, ⟨B, d, rfl, hs'⟩, rfl⟩ (setO_nd hs') (fun k hk' => ?_)⟩
  rcases List.mem_cons.1 hk' with rfl | hk'
  · exact hq
  · exact hB k (mem_ownS.1 hk')
theorem set_new (h : Sx w L V) (room : Nat) (h1 : 1 ≤ room) (h2 : room ≤ 256) : Calls Tryz.prog 85 #[.int .i64 (room : Int)] V (fun e W => ∃ q, e = .returned (.tuple #[ptr q, .int .i64 0]) ∧ Sx w (setO q room [] :: L) W) := by
  refine (Spn.new_good room V h1 h2).mono ?_
  rintro e W' ⟨q, rfl, hs', hq, hk⟩
  refine ⟨q, rfl, h.lay (L' := [setO q room []]) (F' := [q]) hk ⟨[q], [], rfl, ⟨none, 0, rfl, hs'⟩, rfl⟩ (List.nodup_cons.2 ⟨List.not_mem_nil, List.nodup_nil⟩) (fun k hk' => ?_)⟩
  rw [List.mem_singleton.1 hk']; exact hq
theorem rset_did (h : Sx w L V) (i : Nat) (hi : L[i]? = some (rsetO p room l)) (c : ∀ A c, Spn.RefAt V p A c room l → Calls Tryz.prog f args V (Spn.RDid p A room l' n V)) : Calls Tryz.prog f args V (Gets (.int .i64 n) w (L.set i (rsetO p room l'))) := by
  obtain ⟨F, ⟨A, cc, rfl, hs⟩, hn, hl, ht⟩ := h.at_ i hi
  refine (c A cc hs).mono ?_
  rintro e W' ⟨rfl, A', c', hs', hb, hf⟩
  refine ⟨rfl, ht W' (rsetO p room l') (p :: (Spn.own A').toList) ⟨A', c', rfl, hs'⟩ (rsetO_nd hs') (fun k hk => ?_) (hb.mono fun k _ e => ?_)⟩
  · rcases List.mem_cons.1 hk with rfl | hk
    · exact .inl List.mem_cons_self
    · rcases hf k (mem_ownS.1 hk) with h1 | h1
      · exact .inl (List.mem_cons_of_mem _ (mem_ownS.2 h1))
      · exact .inr h1
  · rcases e with rfl | e
    · exact List.mem_cons_self
    · exact List.mem_cons_of_mem _ (mem_ownS.2 e)
theorem rset_add (h : Sx w L V) (i : Nat) (hi : L[i]? = some (rsetO p room l)) (lo hi2 : Int) : Calls Tryz.prog 51 #[ptr p, .int .i64 lo, .int .i64 hi2] V (Gets (.int .i64 (addErr room l lo hi2)) w (L.set i (rsetO p room (addTo room l lo hi2)))) :=
  rset_did h i hi (fun A c hs => Spn.radd_any p c room A l lo hi2 V hs)
theorem rset_cut (h : Sx w L V) (i : Nat) (hi : L[i]? = some (rsetO p room l)) (b : Int) : Calls Tryz.prog 64 #[ptr p, .int .i64 b] V (Gets (.int .i64 (cutErr b)) w (L.set i (rsetO p room (cutTo l b)))) :=
  rset_did h i hi (fun A c hs => Spn.rcut_any p c room A l b V hs)
theorem rset_copy (h : Sx w L V) (i : Nat) (hi : L[i]? = some (rsetO p room l)) : Calls Tryz.prog 49 #[ptr p] V (fun e W => ∃ q, e = .returned (ptr q) ∧ Sx w (rsetO q room l :: L) W) := by
  obtain ⟨F, ⟨A, cc, rfl, hs⟩⟩ := h.get i hi
  refine (Spn.rcopy_any p cc room A l V hs).mono ?_
  rintro e W' ⟨q, B, d, rfl, hs', hk, hq, hB⟩
  refine ⟨q, rfl, h.lay (L' := [rsetO q room l]) (F' := q :: (Spn.own B).toList) hk ⟨_, [], (List.append_nil _).symm, ⟨B, d, rfl, hs'⟩, rfl⟩ (rsetO_nd hs') (fun k hk' => ?_)⟩
  rcases List.mem_cons.1 hk' with rfl | hk'
  · exact hq
  · exact hB k (mem_ownS.1 hk')
theorem rset_new (h : Sx w L V) (room : Nat) (h1 : 1 ≤ room) (h2 : room ≤ 256) : Calls Tryz.prog 46 #[.int .i64 (room : Int)] V (fun e W => ∃ q, e = .returned (.tuple #[ptr q, .int .i64 0]) ∧ Sx w (rsetO q room [] :: L) W) := by
  refine (Spn.rnew_good room V h1 h2).mono ?_
  rintro e W' ⟨q, rfl, hs', hq, hk⟩
  refine ⟨q, rfl, h.lay (L' := [rsetO q room []]) (F' := [q]) hk ⟨[q], [], rfl, ⟨none, 0, rfl, hs'⟩, rfl⟩ (List.nodup_cons.2 ⟨List.not_mem_nil, List.nodup_nil⟩) (fun k hk' => ?_)⟩
  rw [List.mem_singleton.1 hk']; exact hq
theorem set_next (h : Sx w L V) (i : Nat) (hi : L[i]? = some (setO p room l)) (x : Int) : Calls Tryz.prog 94 #[ptr p, .int .i64 x] V (Gets (.int .i64 (next l x)) w L) :=
  set_sees h i hi (fun A c hs => Spn.next_any p c room A l x V hs)
/-! Logs. -/
theorem log_turns (h : Sx w L V) (i : Nat) (hi : L[i]? = some (logO p room last m)) {last' : Int} (c : ∀ g, Snt.LogIs V p g room last m → Calls Tryz.prog f args V (fun e W => e = .returned v ∧ Snt.LogIs W p g room last' m' ∧ Snt.Turned p g V W)) : Calls Tryz.prog f args V (Gets v w (L.set i (logO p room last' m'))) := by
  obtain ⟨F, ⟨g, rfl, hs⟩, hn, hl, ht⟩ := h.at_ i hi
  refine (c g hs).mono ?_
  rintro e W' ⟨rfl, hs', hb⟩
  exact ⟨rfl, ht W' (logO p room last' m') [p, g] ⟨g, rfl, hs'⟩ hn (fun k hk => .inl hk) (hb.mono fun k _ e => by
    rcases e with rfl | rfl
    · exact List.mem_cons_self
    · exact List.mem_cons_of_mem _ List.mem_cons_self)⟩
theorem log_sees (h : Sx w L V) (i : Nat) (hi : L[i]? = some (logO p room last m)) (c : ∀ g, Snt.LogIs V p g room last m → Calls Tryz.prog f args V (fun e W => e = .returned v ∧ Kept V W)) : Calls Tryz.prog f args V (Gets v w L) := by
  obtain ⟨F, ⟨g, rfl, hs⟩⟩ := h.get i hi
  exact (c g hs).mono fun e W' ⟨he, hk⟩ => ⟨he, h.on hk⟩
theorem same_kept {e : Ending} {V W : World} (h : e = .returned v ∧ V = W) : e = .returned v ∧ Kept V W := ⟨h.1, h.2 ▸ Kept.refl _⟩
theorem same_kept' {e : Ending} {V W : World} (h : e = .returned v ∧ W = V) : e = .returned v ∧ Kept V W := ⟨h.1, h.2 ▸ Kept.refl _⟩
theorem log_put (h : Sx w L V) (i : Nat) (hi : L[i]? = some (logO p room last m)) (q : Pk) : Calls Tryz.prog 120 #[ptr p, pkV q] V (Gets (.int .i64 (putErr room last m q)) w (L.set i (logO p room (putTop room last m q) (putL room last m q)))) :=
  log_turns h i hi (fun g hs => Snt.put_is hs q)
theorem log_drop (h : Sx w L V) (i : Nat) (hi : L[i]? = some (logO p room last m)) (n : Int) : Calls Tryz.prog 100 #[ptr p, .int .i64 n] V (Gets (.tuple #[pkV (getP m n), .bool (getB m n)]) w (L.set i (logO p room last (dropL m n)))) :=
  log_turns h i hi (fun g hs => Snt.drop_is hs n)
theorem log_clear (h : Sx w L V) (i : Nat) (hi : L[i]? = some (logO p room last m)) : Calls Tryz.prog 72 #[ptr p] V (Gets (.tuple #[]) w (L.set i (logO p room last []))) :=
  log_turns h i hi (fun g hs => Snt.clear_is hs)
theorem log_oldest (h : Sx w L V) (i : Nat) (hi : L[i]? = some (logO p room last m)) : Calls Tryz.prog 95 #[ptr p] V (Gets (.tuple #[pkV (Cd.at_ m 0), .bool (decide (0 < m.length))]) w L) :=
  log_sees h i hi (fun g hs => Snt.oldest_is hs)
theorem log_last (h : Sx w L V) (i : Nat) (hi : L[i]? = some (logO p room last m)) : Calls Tryz.prog 83 #[ptr p] V (Gets (.int .i64 last) w L) :=
  log_sees h i hi (fun g hs => (Snt.last_is hs).mono fun _ _ h => same_kept h)
theorem log_flight (h : Sx w L V) (i : Nat) (hi : L[i]? = some (logO p room last m)) : Calls Tryz.prog 81 #[ptr p] V (Gets (.int .i64 (fly m)) w L) :=
  log_sees h i hi (fun g hs => (Snt.flight_is hs).mono fun _ _ h => same_kept h)
theorem log_eliciting (h : Sx w L V) (i : Nat) (hi : L[i]? = some (logO p room last m)) : Calls Tryz.prog 82 #[ptr p] V (Gets (.int .i64 (eli m)) w L) :=
  log_sees h i hi (fun g hs => (Snt.eliciting_is hs).mono fun _ _ h => same_kept h)
def pkO (A : Option Addr) (n c : Nat) (l : List Pk) : Ob := rowO pkC 32 A n c l
theorem lay_pk {W : World} {u : Value} {m : List Pk} (h : Sx w L V) (hp : Snt.PLay V V.heap.size W u m) : ∃ A c, u = .slice A m.length c ∧ Sx w (pkO A m.length c m :: L) W := by
  obtain ⟨A, c, rfl, hr, hf, hk⟩ := hp
  exact ⟨A, c, rfl, h.lay (L' := [pkO A m.length c m]) (F' := (Cd.own A).toList) hk ⟨_, [], (List.append_nil _).symm, ⟨rfl, hr⟩, rfl⟩ (own_nodup A) (fun k hk' => hf k (mem_own.1 hk'))⟩
theorem log_all (h : Sx w L V) (i : Nat) (hi : L[i]? = some (logO p room last m)) : Calls Tryz.prog 69 #[ptr p] V (fun e W => ∃ A c, e = .returned (.slice A m.length c) ∧ Sx w (pkO A m.length c m :: L) W) := by
  obtain ⟨F, ⟨g, rfl, hs⟩⟩ := h.get i hi
  refine (Snt.all_is hs).mono ?_
  rintro e W' ⟨u, rfl, hp⟩
  obtain ⟨A, c, rfl, ho⟩ := lay_pk h hp
  exact ⟨A, c, rfl, ho⟩
theorem log_copy (h : Sx w L V) (i : Nat) (hi : L[i]? = some (logO p room last m)) : Calls Tryz.prog 111 #[ptr p] V (fun e W => ∃ q, e = .returned (ptr q) ∧ Sx w (logO q room last m :: L) W) := by
  obtain ⟨F, ⟨g, rfl, hs⟩⟩ := h.get i hi
  refine (Snt.copy_is hs).mono ?_
  rintro e W' ⟨q, g', rfl, hs', hk, hq, hg⟩
  refine ⟨q, rfl, h.lay (L' := [logO q room last m]) (F' := [q, g']) hk ⟨_, [], (List.append_nil _).symm, ⟨g', rfl, hs'⟩, rfl⟩ (log_nd hs') (fun k hk' => ?_)⟩
  rcases List.mem_cons.1 hk' with rfl | hk'
  · exact hq
  · rw [List.mem_singleton.1 hk']; exact hg
theorem log_new (h : Sx w L V) (room : Nat) (h1 : 1 ≤ room) (h2 : room ≤ 256) : Calls Tryz.prog 43 #[.int .i64 (room : Int)] V (fun e W => ∃ q, e = .returned (.tuple #[ptr q, .int .i64 0]) ∧ Sx w (logO q room (-1) [] :: L) W) := by
  refine (Snt.new_good room V h1 h2).mono ?_
  rintro e W' ⟨q, g', rfl, hs', hk, hq, hg⟩
  refine ⟨q, rfl, h.lay (L' := [logO q room (-1) []]) (F' := [q, g']) hk ⟨_, [], (List.append_nil _).symm, ⟨g', rfl, hs'⟩, rfl⟩ (log_nd hs') (fun k hk' => ?_)⟩
  rcases List.mem_cons.1 hk' with rfl | hk'
  · exact hq
  · rw [List.mem_singleton.1 hk']; exact hg
/-! The document's logs. -/
theorem rlog_to {W : World} {A : Option Addr} {c : Nat} {last' : Int} (h : Sx w L V) (i : Nat) (hi : L[i]? = some (rlogO p room last m)) : ∃ A, (∃ c, Snt.RefAt V p room last m A c) ∧ ∀ W last' m', Snt.RefTo V p room last' m' A W → Sx w (L.set i (rlogO p room last' m')) W := by
  obtain ⟨F, ⟨A, cc, rfl, hs⟩, hn, hl, ht⟩ := h.at_ i hi
  refine ⟨A, ⟨cc, hs⟩, fun W last' m' ⟨A', c', hs', hb, hf⟩ => ht W (rlogO p room last' m') (p :: (Cd.own A').toList) ⟨A', c', rfl, hs'⟩ (rlogO_nd hs') (fun k hk => ?_) (hb.mono fun k _ e => by rw [e]; exact List.mem_cons_self)⟩
  rcases List.mem_cons.1 hk with rfl | hk
  · exact .inl List.mem_cons_self
  · rcases hf k (mem_own.1 hk) with h1 | h1
    · exact .inl (List.mem_cons_of_mem _ (mem_own.2 h1))
    · exact .inr h1
theorem rlog_put (h : Sx w L V) (i : Nat) (hi : L[i]? = some (rlogO p room last m)) (q : Pk) : Calls Tryz.prog 50 #[ptr p, pkV q] V (Gets (.int .i64 (putErr room last m q)) w (L.set i (rlogO p room (putTop room last m q) (putL room last m q)))) := by
  obtain ⟨A, ⟨c, hs⟩, ht⟩ := rlog_to (W := V) (A := none) (c := 0) (last' := 0) h i hi
  exact (Snt.rput_at hs q).mono fun e W' ⟨he, hr⟩ => ⟨he, ht _ _ _ hr⟩
theorem rlog_drop (h : Sx w L V) (i : Nat) (hi : L[i]? = some (rlogO p room last m)) (n : Int) : Calls Tryz.prog 67 #[ptr p, .int .i64 n] V (Gets (.tuple #[pkV (getP m n), .bool (getB m n)]) w (L.set i (rlogO p room last (dropL m n)))) := by
  obtain ⟨A, ⟨c, hs⟩, ht⟩ := rlog_to (W := V) (A := none) (c := 0) (last' := 0) h i hi
  exact (Snt.rdrop_at hs n).mono fun e W' ⟨he, hr⟩ => ⟨he, ht _ _ _ hr⟩
theorem rlog_clear (h : Sx w L V) (i : Nat) (hi : L[i]? = some (rlogO p room last m)) : Calls Tryz.prog 73 #[ptr p] V (Gets (.tuple #[]) w (L.set i (rlogO p room last []))) := by
  obtain ⟨A, ⟨c, hs⟩, ht⟩ := rlog_to (W := V) (A := none) (c := 0) (last' := 0) h i hi
  exact (Snt.rclear_at hs).mono fun e W' ⟨he, hr⟩ => ⟨he, ht _ _ _ hr⟩
theorem rlog_sees (h : Sx w L V) (i : Nat) (hi : L[i]? = some (rlogO p room last m)) (c : ∀ A c, Snt.RefAt V p room last m A c → Calls Tryz.prog f args V (fun e W => e = .returned v ∧ Kept V W)) : Calls Tryz.prog f args V (Gets v w L) := by
  obtain ⟨F, ⟨A, cc, rfl, hs⟩⟩ := h.get i hi
  exact (c A cc hs).mono fun e W' ⟨he, hk⟩ => ⟨he, h.on hk⟩
theorem rlog_oldest (h : Sx w L V) (i : Nat) (hi : L[i]? = some (rlogO p room last m)) : Calls Tryz.prog 63 #[ptr p] V (Gets (.tuple #[pkV (Cd.at_ m 0), .bool (decide (0 < m.length))]) w L) :=
  rlog_sees h i hi (fun A c hs => Snt.roldest_at hs)
theorem rlog_flight (h : Sx w L V) (i : Nat) (hi : L[i]? = some (rlogO p room last m)) : Calls Tryz.prog 74 #[ptr p] V (Gets (.int .i64 (fly m)) w L) :=
  rlog_sees h i hi (fun A c hs => (Snt.rflight_at hs).mono fun _ _ h => same_kept' h)
theorem rlog_eliciting (h : Sx w L V) (i : Nat) (hi : L[i]? = some (rlogO p room last m)) : Calls Tryz.prog 75 #[ptr p] V (Gets (.int .i64 (eli m)) w L) :=
  rlog_sees h i hi (fun A c hs => (Snt.reliciting_at hs).mono fun _ _ h => same_kept' h)
theorem rlog_all (h : Sx w L V) (i : Nat) (hi : L[i]? = some (rlogO p room last m)) : Calls Tryz.prog 65 #[ptr p] V (fun e W => ∃ A c, e = .returned (.slice A m.length c) ∧ Sx w (pkO A m.length c m :: L) W) := by
  obtain ⟨F, ⟨A, cc, rfl, hs⟩⟩ := h.get i hi
  refine (Snt.rall_at hs).mono ?_
  rintro e W' ⟨u, rfl, hp⟩
  obtain ⟨A, c, rfl, ho⟩ := lay_pk h hp
  exact ⟨A, c, rfl, ho⟩
theorem rlog_copy (h : Sx w L V) (i : Nat) (hi : L[i]? = some (rlogO p room last m)) : Calls Tryz.prog 48 #[ptr p] V (fun e W => ∃ q, e = .returned (ptr q) ∧ Sx w (rlogO q room last m :: L) W) := by
  obtain ⟨F, ⟨A, cc, rfl, hs⟩⟩ := h.get i hi
  refine (Snt.rcopy_at hs).mono ?_
  rintro e W' ⟨q, B, d, rfl, hs', hk, hq, hB⟩
  refine ⟨q, rfl, h.lay (L' := [rlogO q room last m]) (F' := q :: (Cd.own B).toList) hk ⟨_, [], (List.append_nil _).symm, ⟨B, d, rfl, hs'⟩, rfl⟩ (rlogO_nd hs') (fun k hk' => ?_)⟩
  rcases List.mem_cons.1 hk' with rfl | hk'
  · exact hq
  · exact hB k (mem_own.1 hk')
theorem rlog_new (h : Sx w L V) (room : Nat) (h1 : 1 ≤ room) (h2 : room ≤ 256) : Calls Tryz.prog 45 #[.int .i64 (room : Int)] V (fun e W => ∃ q, e = .returned (.tuple #[ptr q, .int .i64 0]) ∧ Sx w (rlogO q room (-1) [] :: L) W) := by
  refine (Snt.rnew_good room V h1 h2).mono ?_
  rintro e W' ⟨q, rfl, hs', hk, hq⟩
  refine ⟨q, rfl, h.lay (L' := [rlogO q room (-1) []]) (F' := [q]) hk ⟨[q], [], rfl, ⟨none, 0, rfl, hs'⟩, rfl⟩ (List.nodup_cons.2 ⟨List.not_mem_nil, List.nodup_nil⟩) (fun k hk' => ?_)⟩
  rw [List.mem_singleton.1 hk']; exact hq
end
end Go.Proofs.YtilkgjpgoogiiaaGreat.Ths
namespace Go.Proofs.YtilkgjpgoogiiaaGreat.Num
open Go.ChangeShapes Go.WideShapes Go.ChangeAt Go.RowKit Wd
structure Grid (s : Nat) (w : World) (A : Option Addr) (n c : Nat) (f : Nat → Nat → Int) : Prop where
  cap : n ≤ c
  most : c ≤ maxLen
  lies : 0 < n → ∃ b o, A = some ⟨b, o, none⟩ ∧ b < w.heap.size ∧ ∀ k, k < n → ∀ j, j < s → w.cell? ⟨b, o + k * s + j, none⟩ = some (.int .i64 (f k j))
theorem Grid.kept {s : Nat} {w w' : World} {A : Option Addr} {n c : Nat} {f : Nat → Nat → Int} (h : Grid s w A n c f) (k : Kept w w') : Grid s w' A n c f :=
  ⟨h.cap, h.most, fun hn => by
    obtain ⟨b, o, rfl, hb, hc⟩ := h.lies hn
    exact ⟨b, o, rfl, Nat.lt_of_lt_of_le hb k.size, fun i hi j hj => (Below.cell k (p := ⟨b, o + i * s + j, none⟩) hb).trans (hc i hi j hj)⟩⟩
theorem Grid.upto {s : Nat} {w : World} {A : Option Addr} {n c : Nat} {f : Nat → Nat → Int} (h : Grid s w A n c f) (k : Nat) (hk : k ≤ n) : Grid s w A k c f :=
  ⟨Nat.le_trans hk h.cap, h.most, fun hn => by
    obtain ⟨b, o, rfl, hb, hc⟩ := h.lies (by omega)
    exact ⟨b, o, rfl, hb, fun i hi j hj => hc i (by omega) j hj⟩⟩
theorem add_plain (b o k : Nat) : (⟨b, o, none⟩ : Addr).add k = ⟨b, o + k, none⟩ := by unfold Addr.add; split <;> simp_all
theorem no_spot {w : World} {a : Addr} {v : Value} (h : w.cell? a = some v) : a = ⟨a.block, a.off, none⟩ := by
  obtain ⟨b, o, s⟩ := a
  unfold World.cell? at h
  split at h
  · cases s with
    | none => rfl
    | some _ => simp at h
  · cases h
variable {H : Type} {enc : TypeId × Value → H} {P : Program} {W : World}
theorem open_grid {t e : TypeId} {s : Nat} (hs0 : 0 < s) (ht : P.underlying t = some (.slice e)) (hC : P.cellsOf e = s)
    (hcell : ∀ fuel cs x, DataW.trod enc P W 0 (fun _ => true) true fuel e cs = some x → ∀ j, j < s → ∃ v, cs[j]? = some (Value.int .i64 v))
    {a0 : Option Addr} {len cap : Nat} {d0 : DataW H} {p : List MemPlace} (h0 : DataW.Trod enc P W 0 (fun _ => true) true t (.slice a0 len cap) d0 p) : ∃ f, Grid s W a0 len cap f := by
  obtain ⟨fuel, hf⟩ := h0
  rcases Go.Deep.open_slice ht hf with ⟨hcs, hx⟩ | ⟨a, len', cap', m, n, D, Pl, hcs, _, hl, hm, hmm, hx, hi⟩
  · simp [Value.cells] at hcs
    obtain ⟨rfl, rfl, rfl⟩ := hcs
    exact ⟨fun _ _ => 0, Nat.le_refl _, by simp [maxLen], fun h => absurd h (by omega)⟩
  · simp [Value.cells] at hcs
    obtain ⟨rfl, rfl, rfl⟩ := hcs
    simp only [if_true] at hmm
    have key : ∀ k, k < len → ∀ j, j < s → ∃ v, W.cell? (a.add (k * s + j)) = some (Value.int .i64 v) := by
      intro k hk j hj
      obtain ⟨cs', hc, htr⟩ := hi k (by omega)
      rw [hC] at hc
      obtain ⟨_, hcl, hat⟩ := World.cells?_some hc
      obtain ⟨v, hv⟩ := hcell _ _ _ htr j hj
      refine ⟨v, ?_⟩
      rw [← Go.Deep.add_add, hat j hj, hv]
    refine ⟨fun k j => @Classical.epsilon Int ⟨0⟩ (fun v => W.cell? (a.add (k * s + j)) = some (Value.int .i64 v)), hl, hm, fun hn => ?_⟩
    obtain ⟨v0, hv0⟩ := key 0 hn 0 hs0
    have ha : a.add (0 * s + 0) = a := by simp [Addr.add]
    rw [ha] at hv0
    have hsp := no_spot hv0
    refine ⟨a.block, a.off, by rw [← hsp], World.block_lt_of_cell? _ _ hv0, fun k hk j hj => ?_⟩
    have hkj := key k hk j hj
    have ek : a.add (k * s + j) = ⟨a.block, a.off + k * s + j, none⟩ := by have := add_plain a.block a.off (k * s + j); rw [← hsp, ← Nat.add_assoc] at this; exact this
    have h2 := Classical.epsilon_spec hkj
    rw [← ek]; exact h2
theorem cells_array {e i : TypeId} {s : Nat} (he : P.underlying e = some (.array s i)) (hi : P.underlying i = some (.int .i64)) (hci : P.cellsOf i = 1) :
    ∀ fuel cs x, DataW.trod enc P W 0 (fun _ => true) true fuel e cs = some x → ∀ j, j < s → ∃ v, cs[j]? = some (Value.int .i64 v) := by
  intro fuel cs x h j hj
  obtain ⟨xs, m, _, _, hl, hy, hall⟩ := DataW.trod_array he h
  have h1 := hall j hj
  rw [hci, Nat.mul_one, List.getElem?_eq_getElem (by omega)] at h1
  obtain ⟨v, h2, _, _⟩ := DataW.trod_int hi h1
  refine ⟨v, ?_⟩
  have := congrArg List.head? h2
  rw [List.head?_take, if_neg (by omega), List.head?_drop] at this
  simpa using this
theorem cells_int {i : TypeId} (hi : P.underlying i = some (.int .i64)) :
    ∀ fuel cs x, DataW.trod enc P W 0 (fun _ => true) true fuel i cs = some x → ∀ j, j < 1 → ∃ v, cs[j]? = some (Value.int .i64 v) := by
  intro fuel cs x h j hj
  obtain ⟨v, rfl, _, _⟩ := DataW.trod_int hi h
  exact ⟨v, by rw [show j = 0 by omega]; rfl⟩
theorem cInt : Tryz.prog.cellsOf 3 = 1 := by kernel_rfl
theorem open_nums {a0 : Option Addr} {len cap : Nat} {d0 : DataW H} {p : List MemPlace} (h0 : DataW.Trod enc Tryz.prog W 0 (fun _ => true) true 55 (.slice a0 len cap) d0 p) : ∃ f, Grid 1 W a0 len cap f :=
  open_grid (by omega) Tryz.underlying55 cInt (cells_int Tryz.underlying3) h0
end Go.Proofs.YtilkgjpgoogiiaaGreat.Num
