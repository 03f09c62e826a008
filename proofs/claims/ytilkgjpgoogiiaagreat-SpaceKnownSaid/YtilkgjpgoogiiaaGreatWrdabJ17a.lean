/-
  Two arrays of integers are compared: they are equal just if their lists of numbers are.
-/
import Derived.Laws.StructEq
import Derived.Test.YtilkgjpgoogiiaaGreatRows
import Derived.WalkKit
import Derived.WalkSpells
import Derived.WalkLawsBesides
import Derived.Below
import Derived.Lib.Hide
import Derived.Maps.AppendAt
import Derived.Deep.AppendLies
import Derived.OwnWalk
import Derived.LoopN
import Derived.WalkMore
import Derived.IntWalk
import Derived.StillTailTactics
import Derived.Deep.QuietTactic
import Derived.BigQuiet
import Derived.Deep.RegionHeld3
import Derived.RegionTactic
import Derived.Laws.CopyOwn
import Derived.Laws.Externs
import Derived.Lib.AppendZeros
import Derived.Deep.RegionLaw
import Derived.OrdersIn
import Derived.OrdersHeld
import Derived.OwnWalkIn
set_option maxRecDepth 100000
set_option maxHeartbeats 16000000
set_option linter.unusedVariables false
set_option linter.unusedSimpArgs false
namespace Go.Proofs.YtilkgjpgoogiiaaGreat.Arr
open Go
variable {P : Program}
end Go.Proofs.YtilkgjpgoogiiaaGreat.Arr
namespace Go.Proofs.YtilkgjpgoogiiaaGreat.Wd
open Go.RowKit
def Kept (w w' : World) : Prop := Below w.heap.size w w'
theorem Kept.refl (w : World) : Kept w w := Below.refl _ _
theorem Kept.trans {a b c : World} (h : Kept a b) (k : Kept b c) : Kept a c := Below.trans h (Below.mono k h.size)
theorem Kept.alloc {a b : World} (h : Kept a b) (o : Obj) : Kept a (b.alloc o) := Below.alloc h h.size o
theorem Kept.drew {a b : World} (h : Kept a b) : Kept a b.drew := Below.drew h
theorem Kept.drewN {a b : World} (h : Kept a b) (n : Nat) : Kept a (b.drewN n) := ⟨h.os, h.tape, h.output, h.size, h.block⟩
theorem Kept.size {a b : World} (h : Kept a b) : a.heap.size ≤ b.heap.size := Below.size h
theorem Kept.at_ {a b : World} (h : Kept a b) {k : Nat} (hk : k < a.heap.size) : b.heap[k]? = a.heap[k]? := Below.block h k hk
theorem Kept.cell {a b : World} (h : Kept a b) {p : Addr} {v : Value} (hc : a.cell? p = some v) : b.cell? p = some v := by
  have hp : p.block < a.heap.size := by
    rcases Nat.lt_or_ge p.block a.heap.size with h' | h'
    · exact h'
    · simp [World.cell?, Array.getElem?_eq_none h'] at hc
  exact (Below.cell h hp).trans hc
structure But (F : Nat → Prop) (w w' : World) : Prop where
  os : w'.os = w.os
  tape : w'.tape = w.tape
  output : w'.output = w.output
  size : w.heap.size ≤ w'.heap.size
  block : ∀ k, k < w.heap.size → ¬ F k → w'.heap[k]? = w.heap[k]?
theorem But.refl (F : Nat → Prop) (w : World) : But F w w := ⟨rfl, rfl, rfl, Nat.le_refl _, fun _ _ _ => rfl⟩
theorem Kept.but {a b : World} (h : Kept a b) (F : Nat → Prop) : But F a b := ⟨h.os, h.tape, h.output, h.size, fun k hk _ => h.at_ hk⟩
theorem But.trans {F G : Nat → Prop} {a b c : World} (h : But F a b) (k : But G b c) (hG : ∀ i, i < a.heap.size → G i → F i) : But F a c :=
  ⟨k.os.trans h.os, k.tape.trans h.tape, k.output.trans h.output, Nat.le_trans h.size k.size, fun i hi hF => (k.block i (Nat.lt_of_lt_of_le hi h.size) (fun g => hF (hG i hi g))).trans (h.block i hi hF)⟩
theorem But.mono {F G : Nat → Prop} {a b : World} (h : But F a b) (hG : ∀ i, i < a.heap.size → F i → G i) : But G a b :=
  ⟨h.os, h.tape, h.output, h.size, fun i hi hg => h.block i hi (fun f => hg (hG i hi f))⟩
theorem Kept.then_ {F : Nat → Prop} {a b c : World} (h : Kept a b) (k : But F b c) (hF : ∀ i, F i → a.heap.size ≤ i) : Kept a c :=
  ⟨k.os.trans h.os, k.tape.trans h.tape, k.output.trans h.output, Nat.le_trans h.size k.size, fun i hi => (k.block i (Nat.lt_of_lt_of_le hi h.size) (fun f => by have := hF i f; omega)).trans (h.at_ hi)⟩
theorem But.alloc {F : Nat → Prop} {a b : World} (h : But F a b) (o : Obj) : But F a (b.alloc o) := h.trans (((Kept.refl b).alloc o).but (fun _ => False)) (fun _ _ f => f.elim)
theorem But.drew {F : Nat → Prop} {a b : World} (h : But F a b) : But F a b.drew := ⟨h.os, h.tape, h.output, h.size, h.block⟩
theorem But.kept {F : Nat → Prop} {a b c : World} (h : But F a b) (k : Kept b c) : But F a c := h.trans (k.but (fun _ => False)) (fun _ _ f => f.elim)
theorem But.setCell {F : Nat → Prop} {a b : World} (h : But F a b) {p : Addr} (hp : F p.block) (u : Value) : But F a (b.setCell p u) :=
  ⟨h.os, h.tape, h.output, by simpa using h.size, fun k hk hF => by rw [Below.heap_setCell _ _ _ _ (fun e => hF (by rw [e]; exact hp))]; exact h.block k hk hF⟩
theorem But.grown {F : Nat → Prop} {a b c : World} (h : But F a b) {row : Option Nat} (hg : b.grownBy c row) (hr : ∀ k, row = some k → k < a.heap.size → F k) : But F a c :=
  ⟨hg.os.trans h.os, hg.tape.trans h.tape, hg.output.trans h.output, Nat.le_trans h.size hg.size, fun i hi hF => (hg.block i (Nat.lt_of_lt_of_le hi h.size) (fun e => hF (hr i e.symm hi))).trans (h.block i hi hF)⟩
theorem Kept.grown {a b c : World} (h : Kept a b) {row : Option Nat} (hg : b.grownBy c row) (hr : ∀ k, row = some k → a.heap.size ≤ k) : Kept a c := Below.grown h hg h.size hr
def Blk (w : World) (g : Nat) (t : TypeId) (cs : Array Value) : Prop := w.heap[g]? = some (.cells cs t (0, 0))
section
variable {w w' : World} {g : Nat} {t : TypeId} {cs : Array Value}
theorem Blk.lt (h : Blk w g t cs) : g < w.heap.size := (Array.getElem?_eq_some_iff.1 h).1
theorem Blk.cell (h : Blk w g t cs) (i : Nat) : w.cell? ⟨g, i, none⟩ = cs[i]? := cell_of_row w g i cs t (0, 0) h
theorem Blk.frozen (h : Blk w g t cs) (i : Nat) : w.frozen? ⟨g, i, none⟩ = false := frozen_of_row w g i cs t h
theorem Blk.new (w : World) (t : TypeId) (cs : Array Value) : Blk (w.alloc (.cells cs t)) w.heap.size t cs := heap_alloc_new w _
theorem Blk.at_ (h : Blk w g t cs) (e : w'.heap[g]? = w.heap[g]?) : Blk w' g t cs := e.trans h
theorem Blk.kept (h : Blk w g t cs) (k : Kept w w') : Blk w' g t cs := h.at_ (k.at_ h.lt)
theorem Blk.but {F : Nat → Prop} (h : Blk w g t cs) (k : But F w w') (hF : ¬ F g) : Blk w' g t cs := h.at_ (k.block g h.lt hF)
theorem Blk.set_ (h : Blk w g t cs) (i : Nat) (u : Value) : Blk (w.setCell ⟨g, i, none⟩ u) g t (cs.setIfInBounds i u) := by
  unfold Blk at h ⊢
  simp [World.setCell, Array.getElem?_modify, h]
theorem Blk.far (h : Blk w g t cs) {p : Addr} (hp : g ≠ p.block) (u : Value) : Blk (w.setCell p u) g t cs := (Below.heap_setCell w p u g hp).trans h
theorem Blk.ne_ {g' : Nat} {t' : TypeId} {cs' : Array Value} (h : Blk w g t cs) (h' : Blk w g' t' cs') (hne : t ≠ t') : g ≠ g' := by
  rintro rfl
  unfold Blk at h h'
  rw [h] at h'
  injection h' with h'
  injection h' with _ ht
  exact hne ht
end
theorem setRow_blk {w : World} {g : Nat} {t : TypeId} {X : Array Value} (h : Blk w g t X) (Y : Array Value) : Blk (w.setRow g Y) g t Y := setRow_heap w g X Y t (0, 0) h
theorem setRow_far {w : World} {g k : Nat} {t : TypeId} {X : Array Value} (h : Blk w k t X) (hk : k ≠ g) (Y : Array Value) : Blk (w.setRow g Y) k t X := (setRow_other w g k Y hk).trans h
theorem But.setRow {F : Nat → Prop} {a b : World} (h : But F a b) {g : Nat} (hF : F g) (Y : Array Value) : But F a (b.setRow g Y) :=
  ⟨h.os, h.tape, h.output, by simpa using h.size, fun k hk hn => by rw [setRow_other _ _ _ _ (fun e => hn (by rw [e]; exact hF))]; exact h.block k hk hn⟩
theorem Kept.setRow {a b : World} (h : Kept a b) {g : Nat} (hg : a.heap.size ≤ g) (Y : Array Value) : Kept a (b.setRow g Y) :=
  ⟨h.os, h.tape, h.output, by simpa using h.size, fun k hk => by rw [setRow_other _ _ _ _ (by omega)]; exact h.at_ hk⟩
theorem Kept.setCell {a b : World} (h : Kept a b) {p : Addr} (hp : a.heap.size ≤ p.block) (u : Value) : Kept a (b.setCell p u) := Below.setCell h hp u
theorem But.cell {F : Nat → Prop} {a b : World} (h : But F a b) {p : Addr} {v : Value} (hF : ¬ F p.block) (hc : a.cell? p = some v) : b.cell? p = some v :=
  (World.cell?_of_block (w := a) (h.block p.block (World.block_lt_of_cell? _ _ hc) hF)).trans hc
theorem cell_box (w : World) (v : Value) (t : TypeId) : (w.alloc (.cells #[v] t)).cell? ⟨w.heap.size, 0, none⟩ = some v := (Blk.new w t #[v]).cell 0
theorem cell_box2 (w : World) (o : Obj) (v : Value) (t : TypeId) : ((w.alloc o).alloc (.cells #[v] t)).cell? ⟨w.heap.size + 1, 0, none⟩ = some v := by
  have := cell_box (w.alloc o) v t; rwa [World.size_alloc] at this
theorem ret_int {k : IntKind} {a b : Int} (h : a = b) : Ending.returned (.int k a) = .returned (.int k b) := by rw [h]
theorem ret_bool {a b : Bool} (h : a = b) : Ending.returned (.bool a) = .returned (.bool b) := by rw [h]
theorem quiet_same {P : Program} {f : FuncId} {args : Array Value} {w : World} {n : Nat} {v : Value}
    (h : Calls P f args (w.drewN n) fun e w' => e = .returned v ∧ w.drewN n = w') : Calls P f args (w.drewN n) fun e w'' => e = .returned v ∧ ∃ m, w'' = w.drewN m :=
  Calls.quiet_of_same (h.mono fun _ _ ⟨a, b⟩ => ⟨a, b.symm⟩)
theorem bring_any (i n : Int) (w : World) (h0 : 0 < n) (h1 : n ≤ 4611686018427387904) : Calls Tryz.prog 14 #[.int .i64 i, .int .i64 n] w fun e w' => e = .returned (.int .i64 (i % n)) ∧ w = w' := by
  have hm0 := Int.emod_nonneg i (show n ≠ 0 by omega)
  have hm1 := Int.emod_lt_of_pos i h0
  have ht : i.tmod n = if 0 ≤ i ∨ i % n = 0 then i % n else i % n - n := by
    rw [Int.tmod_eq_emod]
    by_cases hi : 0 ≤ i ∨ n ∣ i
    · rw [if_pos hi, if_pos (by rcases hi with h | h; exact .inl h; exact .inr (Int.emod_eq_zero_of_dvd h))]; omega
    · rw [if_neg hi, if_neg (by rintro (h | h); exact hi (.inl h); exact hi (.inr (Int.dvd_of_emod_eq_zero h)))]; omega
  by_cases hi : 0 ≤ i ∨ i % n = 0
  · rw [if_pos hi] at ht
    have hz : (n == 0) = false := by simp only [beq_eq_false_iff_ne]; omega
    go_enter Tryz.func14, Tryz.ntmps14
    go_wp2
    go_ret
    exact ⟨rfl, rfl⟩
  · rw [if_neg hi] at ht
    have hz : (n == 0) = false := by simp only [beq_eq_false_iff_ne]; omega
    go_enter Tryz.func14, Tryz.ntmps14
    go_wp2
    go_ret
    exact ⟨rfl, rfl⟩
end Go.Proofs.YtilkgjpgoogiiaaGreat.Wd
namespace Go.Proofs.YtilkgjpgoogiiaaGreat.Bxs
open Go.RowKit Wd
abbrev Ent := Nat × TypeId × Array Value
structure Bx (w : World) (L : List Ent) (W : World) : Prop where
  K : Kept w W
  all : ∀ (i : Nat) (e : Ent), L[i]? = some e → Blk W e.1 e.2.1 e.2.2 ∧ w.heap.size ≤ e.1
  nd : ∀ (i j : Nat) (e f : Ent), L[i]? = some e → L[j]? = some f → i ≠ j → e.1 ≠ f.1
section
variable {w W W' : World} {L : List Ent}
theorem Bx.nil (w : World) : Bx w [] w := ⟨Kept.refl _, fun _ _ h => by simp at h, fun _ _ _ _ h => by simp at h⟩
theorem Bx.start (k : Kept w W) : Bx w [] W := ⟨k, fun _ _ h => by simp at h, fun _ _ _ _ h => by simp at h⟩
theorem Bx.on (h : Bx w L W) (k : Kept W W') : Bx w L W' := ⟨h.K.trans k, fun i e hi => ⟨(h.all i e hi).1.kept k, (h.all i e hi).2⟩, h.nd⟩
theorem Bx.get (h : Bx w L W) (i : Nat) {b : Nat} {t : TypeId} {cs : Array Value} (hi : L[i]? = some (b, t, cs)) : Blk W b t cs := (h.all i _ hi).1
theorem Bx.ge (h : Bx w L W) (i : Nat) {b : Nat} {t : TypeId} {cs : Array Value} (hi : L[i]? = some (b, t, cs)) : w.heap.size ≤ b := (h.all i _ hi).2
theorem Bx.lt (h : Bx w L W) (i : Nat) {b : Nat} {t : TypeId} {cs : Array Value} (hi : L[i]? = some (b, t, cs)) : b < W.heap.size := (h.all i _ hi).1.lt
theorem Bx.ne (h : Bx w L W) (i j : Nat) {b b' : Nat} {t t' : TypeId} {cs cs' : Array Value} (hi : L[i]? = some (b, t, cs)) (hj : L[j]? = some (b', t', cs')) (hij : i ≠ j) : b ≠ b' := h.nd i j _ _ hi hj hij
theorem Bx.new (h : Bx w L W) (t : TypeId) (cs : Array Value) : Bx w (L ++ [(W.heap.size, t, cs)]) (W.alloc (.cells cs t)) := by
  have key : ∀ i e, (L ++ [(W.heap.size, t, cs)])[i]? = some e → (L[i]? = some e) ∨ (i = L.length ∧ e = (W.heap.size, t, cs)) := by
    intro i e hi
    rcases Nat.lt_or_ge i L.length with h' | h'
    · rw [List.getElem?_append_left h'] at hi; exact .inl hi
    · rw [List.getElem?_append_right h'] at hi
      rcases Nat.eq_zero_or_pos (i - L.length) with h0 | h0
      · rw [h0] at hi
        exact .inr ⟨by omega, (Option.some.inj hi).symm⟩
      · rw [List.getElem?_eq_none (by simp; omega)] at hi; cases hi
  refine ⟨h.K.alloc _, fun i e hi => ?_, fun i j e f hi hj hij => ?_⟩
  · rcases key i e hi with h1 | ⟨_, rfl⟩
    · exact ⟨(h.all i e h1).1.kept ((Kept.refl _).alloc _), (h.all i e h1).2⟩
    · exact ⟨Blk.new _ _ _, h.K.size⟩
  · rcases key i e hi with h1 | ⟨h1, rfl⟩
    · rcases key j f hj with h2 | ⟨h2, rfl⟩
      · exact h.nd i j e f h1 h2 hij
      · exact Nat.ne_of_lt (h.all i e h1).1.lt
    · rcases key j f hj with h2 | ⟨h2, rfl⟩
      · exact (Nat.ne_of_lt (h.all j f h2).1.lt).symm
      · exact absurd (h1.trans h2.symm) hij
theorem Bx.set_ (h : Bx w L W) (i : Nat) {b : Nat} {t : TypeId} {cs : Array Value} (hi : L[i]? = some (b, t, cs)) {cs' : Array Value} (hb : Blk W' b t cs') (hk : But (fun k => k = b) W W') : Bx w (L.set i (b, t, cs')) W' := by
  have hil : i < L.length := (List.getElem?_eq_some_iff.1 hi).1
  have num : ∀ j e, (L.set i (b, t, cs'))[j]? = some e → ∃ f, L[j]? = some f ∧ f.1 = e.1 ∧ (j ≠ i → f = e) ∧ (j = i → e = (b, t, cs')) := by
    intro j e hj
    by_cases hji : j = i
    · subst hji
      rw [List.getElem?_set_self hil] at hj
      have := Option.some.inj hj
      subst this
      exact ⟨_, hi, rfl, fun h => absurd rfl h, fun _ => rfl⟩
    · rw [List.getElem?_set_ne (fun e => hji e.symm)] at hj
      exact ⟨e, hj, rfl, fun _ => rfl, fun h => absurd h hji⟩
  refine ⟨h.K.then_ hk (fun k e => by have := h.ge i hi; omega), fun j e hj => ?_, fun j k e f hj hk' hjk => ?_⟩
  · obtain ⟨f, hf, h1, h2, h3⟩ := num j e hj
    by_cases hji : j = i
    · rw [h3 hji]
      exact ⟨hb, h.ge i hi⟩
    · have := h2 hji
      subst this
      refine ⟨(h.all j f hf).1.but hk (fun e => ?_), (h.all j f hf).2⟩
      exact h.nd j i f _ hf hi hji e
  · obtain ⟨e', he, h1, _, _⟩ := num j e hj
    obtain ⟨f', hf, h2, _, _⟩ := num k f hk'
    rw [← h1, ← h2]
    exact h.nd j k e' f' he hf hjk
theorem Bx.cell_ (h : Bx w L W) (i : Nat) {b : Nat} {t : TypeId} {cs : Array Value} (hi : L[i]? = some (b, t, cs)) (k : Nat) (u : Value) : Bx w (L.set i (b, t, cs.setIfInBounds k u)) (W.setCell ⟨b, k, none⟩ u) :=
  h.set_ i hi ((h.get i hi).set_ k u) ((But.refl (fun j => j = b) W).setCell (p := ⟨b, k, none⟩) rfl u)
end
theorem Bx.one (w : World) (t : TypeId) (a : Array Value) : Bx w [(w.heap.size, t, a)] (w.alloc (.cells a t)) := (Bx.nil w).new t a
theorem Bx.two (w : World) (t u : TypeId) (a b : Array Value) : Bx w [(w.heap.size, t, a), (w.heap.size + 1, u, b)] ((w.alloc (.cells a t)).alloc (.cells b u)) := by
  have h := (Bx.one w t a).new u b
  rw [World.size_alloc] at h
  exact h
theorem Bx.three (w : World) (t u v : TypeId) (a b c : Array Value) : Bx w [(w.heap.size, t, a), (w.heap.size + 1, u, b), (w.heap.size + 1 + 1, v, c)] (((w.alloc (.cells a t)).alloc (.cells b u)).alloc (.cells c v)) := by
  have h := (Bx.two w t u a b).new v c
  rw [World.size_alloc, World.size_alloc] at h
  exact h
end Go.Proofs.YtilkgjpgoogiiaaGreat.Bxs
namespace Go.Proofs.YtilkgjpgoogiiaaGreat.Bxs
open Go.RowKit Wd
section
variable {w V W : World} {L : List Ent}
theorem Bx.cut {L' : List Ent} (h : Bx w (L ++ L') W) : Bx w L W := by
  have key : ∀ (k : Nat) (e : Ent), L[k]? = some e → (L ++ L')[k]? = some e := fun k e hk => by
    rw [List.getElem?_append_left (List.getElem?_eq_some_iff.1 hk).1]; exact hk
  exact ⟨h.K, fun i e hi => h.all i e (key i e hi), fun i j e f hi hj => h.nd i j e f (key i e hi) (key j f hj)⟩
theorem Bx.sel (h : Bx w L W) (ks : List Nat) (hk : ks.Nodup) : Bx w (ks.filterMap fun k => L[k]?) W := by
  have hp : (ks.filterMap fun k => L[k]?).Pairwise (fun e f : Ent => e.1 ≠ f.1) := List.Pairwise.filterMap _ (fun a a' hne b hb b' hb' => h.nd a a' b b' hb hb' hne) hk
  rw [List.pairwise_iff_getElem] at hp
  refine ⟨h.K, fun i e hi => ?_, fun i j e f hi hj hij => ?_⟩
  · have hm := List.mem_of_getElem? hi
    obtain ⟨k, _, hk⟩ := List.mem_filterMap.1 hm
    exact h.all k e hk
  · obtain ⟨li, ei⟩ := List.getElem?_eq_some_iff.1 hi
    obtain ⟨lj, ej⟩ := List.getElem?_eq_some_iff.1 hj
    subst ei; subst ej
    rcases Nat.lt_or_gt_of_ne hij with h1 | h1
    · exact hp i j li lj h1
    · exact (hp j i lj li h1).symm
end
section
variable {w V W : World} {L : List Ent}
theorem Bx.iff : Bx w L W ↔ Kept w W ∧ (∀ e ∈ L, Blk W e.1 e.2.1 e.2.2 ∧ w.heap.size ≤ e.1) ∧ L.Pairwise (fun e f => e.1 ≠ f.1) := by
  constructor
  · intro h
    refine ⟨h.K, fun e he => ?_, ?_⟩
    · obtain ⟨i, hi⟩ := List.mem_iff_getElem?.1 he
      exact h.all i e hi
    · rw [List.pairwise_iff_getElem]
      intro i j hi hj hij
      exact h.nd i j _ _ (List.getElem?_eq_getElem hi) (List.getElem?_eq_getElem hj) (Nat.ne_of_lt hij)
  · rintro ⟨k, ha, hp⟩
    rw [List.pairwise_iff_getElem] at hp
    refine ⟨k, fun i e hi => ha e (List.mem_of_getElem? hi), fun i j e f hi hj hij => ?_⟩
    obtain ⟨li, ei⟩ := List.getElem?_eq_some_iff.1 hi
    obtain ⟨lj, ej⟩ := List.getElem?_eq_some_iff.1 hj
    subst ei; subst ej
    rcases Nat.lt_or_gt_of_ne hij with h1 | h1
    · exact hp i j li lj h1
    · exact (hp j i lj li h1).symm
theorem Bx.perm {M : List Ent} (h : Bx w L W) (p : L.Perm M) : Bx w M W := by
  obtain ⟨k, ha, hp⟩ := Bx.iff.1 h
  exact Bx.iff.2 ⟨k, fun e he => ha e (p.mem_iff.2 he), (p.pairwise_iff (fun h => h.symm)).1 hp⟩
theorem Bx.tail {e : Ent} (h : Bx w (e :: L) W) : Bx w L W := by
  obtain ⟨k, ha, hp⟩ := Bx.iff.1 h
  exact Bx.iff.2 ⟨k, fun x hx => ha x (List.mem_cons_of_mem _ hx), (List.pairwise_cons.1 hp).2⟩
theorem Bx.front {e : Ent} (h : Bx w (L ++ [e]) W) : Bx w (e :: L) W := h.perm (List.perm_append_comm (l₂ := [e]))
theorem Bx.swap {e f : Ent} (h : Bx w (e :: f :: L) W) : Bx w (f :: e :: L) W := h.perm (List.Perm.swap f e L)
theorem Bx.lay (h : Bx w L W) (t : TypeId) (cs : Array Value) : Bx w ((W.heap.size, t, cs) :: L) (W.alloc (.cells cs t)) := Bx.front (h.new t cs)
end
theorem apart {L : List Ent} {i j g b : Nat} {T U : TypeId} {a c : Array Value} (hi : L[i]? = some (g, T, a)) (hj : L[j]? = some (b, U, c)) (hs : a.size ≠ c.size) : i ≠ j := by
  rintro rfl
  rw [hi] at hj
  have := Option.some.inj hj
  simp only [Prod.mk.injEq] at this
  exact hs (by rw [this.2.2])
end Go.Proofs.YtilkgjpgoogiiaaGreat.Bxs
namespace Go.Proofs.YtilkgjpgoogiiaaGreat.Cd
open Go.RowKit Wd
structure Cod (α : Type) where
  enc : α → List Value
  size : Nat
  pos : 0 < size
  len : ∀ a, (enc a).length = size
  one : ∀ a, ∀ u ∈ enc a, u.oneCell' = true
  inj : ∀ a b, enc a = enc b → a = b
variable {α : Type} {C : Cod α} {t : TypeId}
def at_ [Inhabited α] (l : List α) (k : Nat) : α := l.getD k default
theorem at_of [Inhabited α] {l : List α} {k : Nat} (h : k < l.length) : at_ l k = l[k] := by simp [at_, List.getD, h]
theorem at_mem [Inhabited α] {l : List α} {k : Nat} (h : k < l.length) : at_ l k ∈ l := by rw [at_of h]; exact List.getElem_mem h
theorem at_all [Inhabited α] {l m : List α} (h : l.length = m.length) (hk : ∀ i, i < l.length → at_ l i = at_ m i) : l = m := by
  apply List.ext_getElem h
  intro i h1 h2
  have := hk i h1
  rwa [at_of h1, at_of h2] at this
theorem at_snoc [Inhabited α] (l : List α) (x : α) : at_ (l ++ [x]) l.length = x := by simp [at_, List.getD]
theorem at_left [Inhabited α] {l : List α} (m : List α) {k : Nat} (h : k < l.length) : at_ (l ++ m) k = at_ l k := by
  rw [at_of (by simp; omega), at_of h, List.getElem_append_left h]
theorem take_succ [Inhabited α] {l : List α} {k : Nat} (h : k < l.length) : l.take (k + 1) = l.take k ++ [at_ l k] := by
  rw [at_of h]; exact List.take_succ_eq_append_getElem h
theorem at_set [Inhabited α] {l : List α} {k : Nat} (h : k < l.length) (x : α) (i : Nat) : at_ (l.set k x) i = if i = k then x else at_ l i := by
  unfold at_ List.getD
  rw [List.getElem?_set]
  by_cases e : k = i
  · subst e; simp [h]
  · rw [if_neg e, if_neg (fun e' => e e'.symm)]
def flat (C : Cod α) : List α → List Value
  | [] => []
  | a :: l => C.enc a ++ flat C l
theorem flat_length (l : List α) : (flat C l).length = l.length * C.size := by induction l with
  | nil => simp [flat]
  | cons a l ih => simp [flat, ih, C.len, Nat.add_mul]; omega
theorem flat_append (a b : List α) : flat C (a ++ b) = flat C a ++ flat C b := by induction a with
  | nil => rfl
  | cons r t ih => simp [flat, ih]
theorem flat_take (l : List α) : ∀ k, flat C (l.take k) = (flat C l).take (k * C.size) := by
  induction l with
  | nil => intro k; simp [flat]
  | cons a l ih =>
    intro k
    cases k with
    | zero => simp [flat]
    | succ k =>
      rw [List.take_succ_cons, flat, ih, flat, show (k + 1) * C.size = (C.enc a).length + k * C.size by rw [C.len, Nat.add_mul]; omega, List.take_length_add_append]
theorem flat_drop (l : List α) : ∀ k, flat C (l.drop k) = (flat C l).drop (k * C.size) := by
  induction l with
  | nil => intro k; simp [flat]
  | cons a l ih =>
    intro k
    cases k with
    | zero => simp [flat]
    | succ k =>
      rw [List.drop_succ_cons, ih, flat, show (k + 1) * C.size = (C.enc a).length + k * C.size by rw [C.len, Nat.add_mul]; omega, List.drop_length_add_append]
theorem flat_at [Inhabited α] (l : List α) : ∀ k, k < l.length → ∀ j, j < C.size → (flat C l)[k * C.size + j]? = (C.enc (at_ l k))[j]? := by
  intro k hk j hj
  have h1 : flat C l = flat C (l.take k) ++ (C.enc (at_ l k) ++ flat C (l.drop (k + 1))) := by
    have e : l = l.take k ++ (at_ l k :: l.drop (k + 1)) := by
      rw [at_of hk, List.getElem_cons_drop, List.take_append_drop]
    conv => lhs; rw [e]
    rw [flat_append]; rfl
  have h2 : (flat C (l.take k)).length = k * C.size := by rw [flat_length, List.length_take, Nat.min_eq_left (by omega)]
  rw [h1, List.getElem?_append_right (by omega), h2, Nat.add_sub_cancel_left, List.getElem?_append_left (by rw [C.len]; exact hj)]
theorem flat_one (l : List α) : ∀ u ∈ flat C l, u.oneCell' = true := by
  induction l with
  | nil => intro u h; cases h
  | cons a l ih =>
    intro u h
    rcases List.mem_append.1 h with h | h
    · exact C.one a u h
    · exact ih u h
theorem flat_set [Inhabited α] {l : List α} {k : Nat} (h : k < l.length) (x : α) : flat C (l.set k x) = splice (flat C l) (k * C.size) (C.enc x) := by
  have e : l = l.take k ++ (at_ l k :: l.drop (k + 1)) := by rw [at_of h, List.getElem_cons_drop, List.take_append_drop]
  have e2 : l.set k x = l.take k ++ (x :: l.drop (k + 1)) := by
    rw [List.set_eq_take_append_cons_drop, if_pos h]
  rw [e2, flat_append, flat_take]
  show _ ++ (C.enc x ++ flat C (l.drop (k + 1))) = _
  rw [flat_drop]
  unfold splice
  rw [C.len, show (k + 1) * C.size = k * C.size + C.size by rw [Nat.add_mul]; omega]
def own (A : Option Addr) : Option Nat := A.map (·.block)
theorem own_block (A : Option Addr) (n c : Nat) : (Value.slice A n c).ownBlock = own A := by cases A <;> rfl
def Rw (C : Cod α) (t : TypeId) (w : World) (A : Option Addr) (n c : Nat) (l : List α) : Prop := l.length = n ∧ w.ownsRow 0 t C.size (.slice A n c) n (flat C l)
section
variable {w w' : World} {A : Option Addr} {n c : Nat} {l : List α}
theorem Rw.nil (w : World) : Rw C t w none 0 0 [] := ⟨rfl, World.ownsRow_nil w 0 _ C.size⟩
theorem Rw.len (h : Rw C t w A n c l) : l.length = n := h.1
theorem Rw.form (h : Rw C t w A n c l) : (A = none ∧ n = 0 ∧ c = 0 ∧ l = []) ∨ ∃ g cur, A = some ⟨g, 0, none⟩ ∧ Blk w g t cur ∧ n ≤ c ∧ c ≤ maxLen ∧ cur.size = c * C.size ∧ cur.toList.take (n * C.size) = flat C l := by
  rcases h.2.2 with ⟨e, h0⟩ | ⟨g, cap, cur, e, _, hg, r⟩
  · injection e with e1 e2 e3
    exact .inl ⟨e1, h0, e3, List.eq_nil_of_length_eq_zero (by rw [h.1]; exact h0)⟩
  · injection e with e1 e2 e3
    subst e3
    exact .inr ⟨g, cur, e1, hg, r⟩
theorem Rw.cap (h : Rw C t w A n c l) : n ≤ c ∧ c ≤ maxLen := by
  rcases h.form with ⟨_, h0, h1, _⟩ | ⟨g, cur, _, _, h1, h2, _⟩
  · subst h0; subst h1; simp [maxLen]
  · exact ⟨h1, h2⟩
theorem Rw.mk' {g : Nat} {cur : Array Value} (hl : l.length = n) (hb : Blk w g t cur) (h1 : n ≤ c) (h2 : c ≤ maxLen) (h3 : cur.size = c * C.size) (h4 : cur.toList.take (n * C.size) = flat C l) : Rw C t w (some ⟨g, 0, none⟩) n c l :=
  ⟨hl, by rw [flat_length, hl], .inr ⟨g, c, cur, rfl, Nat.zero_le _, hb, h1, h2, h3, h4⟩⟩
theorem Rw.same_ (h : Rw C t w A n c l) (e : ∀ k, own A = some k → w'.heap[k]? = w.heap[k]?) : Rw C t w' A n c l := by
  refine ⟨h.1, h.2.1, ?_⟩
  rcases h.2.2 with h0 | ⟨g, cap, cur, hv, hb, hg, r⟩
  · exact .inl h0
  · injection hv with e1 e2 e3
    exact .inr ⟨g, cap, cur, by rw [e1, e3], hb, (e g (by rw [e1]; rfl)).trans hg, r⟩
theorem Rw.lt (h : Rw C t w A n c l) : ∀ k, own A = some k → k < w.heap.size := fun k e => (h.2.lt k (by rw [own_block]; exact e)).2
theorem Rw.kept (h : Rw C t w A n c l) (k : Kept w w') : Rw C t w' A n c l := h.same_ fun i e => k.at_ (h.lt i e)
theorem Rw.but {F : Nat → Prop} (h : Rw C t w A n c l) (k : But F w w') (hF : ∀ i, own A = some i → ¬ F i) : Rw C t w' A n c l := h.same_ fun i e => k.block i (h.lt i e) (hF i e)
theorem Rw.some_ (h : Rw C t w A n c l) (hn : 0 < n) : ∃ g, A = some ⟨g, 0, none⟩ ∧ g < w.heap.size := by
  rcases h.form with ⟨_, h0, _⟩ | ⟨g, cur, e, hb, _⟩
  · omega
  · exact ⟨g, e, hb.lt⟩
theorem Rw.cell [Inhabited α] {g : Nat} (h : Rw C t w (some ⟨g, 0, none⟩) n c l) {k : Nat} (hk : k < n) {j : Nat} (hj : j < C.size) : w.cell? ⟨g, k * C.size + j, none⟩ = (C.enc (at_ l k))[j]? := by
  have hb : k * C.size + j < n * C.size := by
    have : (k + 1) * C.size ≤ n * C.size := Nat.mul_le_mul_right _ hk
    rw [Nat.add_mul, Nat.one_mul] at this; omega
  rw [h.2.cellAt _ hb]; exact flat_at l k (by rw [h.1]; exact hk) j hj
theorem Rw.free {g : Nat} (h : Rw C t w (some ⟨g, 0, none⟩) n c l) (k : Nat) : w.frozen? ⟨g, k, none⟩ = false := h.2.frozenAt k
theorem Rw.of_own {base : Nat} {v : Value} {m : Nat} {l : List α} (h : w.ownsRow base t C.size v m (flat C l)) (hm : l.length = m) : ∃ A c, v = .slice A m c ∧ Rw C t w A m c l ∧ ∀ k, own A = some k → base ≤ k := by
  have hb : w.ownsRow 0 t C.size v m (flat C l) := by
    refine ⟨h.1, ?_⟩
    rcases h.2 with h0 | ⟨g, cap, cur, e, _, r⟩
    · exact .inl h0
    · exact .inr ⟨g, cap, cur, e, Nat.zero_le _, r⟩
  rcases h.2 with ⟨rfl, h0⟩ | ⟨g, cap, cur, rfl, hg, r⟩
  · subst h0; exact ⟨none, 0, rfl, ⟨hm, hb⟩, fun k e => by cases e⟩
  · exact ⟨_, cap, rfl, ⟨hm, hb⟩, fun k e => by cases e; exact hg⟩
theorem Rw.upto (h : Rw C t w A n c l) (hA : A ≠ none) {k : Nat} (hk : k ≤ n) : Rw C t w A k c (l.take k) := by
  rcases h.form with ⟨e, _⟩ | ⟨g, cur, rfl, hb, h1, h2, h3, h4⟩
  · exact absurd e hA
  · refine Rw.mk' (by rw [List.length_take, h.1]; omega) hb (by omega) h2 h3 ?_
    rw [flat_take, ← h4, List.take_take, Nat.min_eq_left (Nat.mul_le_mul_right _ hk)]
end
def sets (w : World) (g : Nat) : Nat → List Value → World
  | _, [] => w
  | o, v :: vs => sets (w.setCell ⟨g, o, none⟩ v) g (o + 1) vs
theorem sets_but {F : Nat → Prop} {a : World} (g : Nat) (hF : F g) (vs : List Value) : ∀ (b : World) (o : Nat), But F a b → But F a (sets b g o vs) := by
  induction vs with
  | nil => intro b o h; exact h
  | cons v vs ih => intro b o h; exact ih _ _ (h.setCell (p := ⟨g, o, none⟩) hF v)
theorem sets_blk {t : TypeId} (g : Nat) (vs : List Value) : ∀ (w : World) (o : Nat) (X : List Value), Blk w g t X.toArray → o + vs.length ≤ X.length → Blk (sets w g o vs) g t (splice X o vs).toArray := by
  induction vs with
  | nil => intro w o X h _; simpa [sets, splice] using h
  | cons v vs ih =>
    intro w o X h hl
    simp only [List.length_cons] at hl
    have h1 := h.set_ o v
    have e1 : X.toArray.setIfInBounds o v = (X.set o v).toArray := by simp
    rw [e1] at h1
    have h2 := ih _ (o + 1) (X.set o v) h1 (by rw [List.length_set]; omega)
    have e2 : splice (X.set o v) (o + 1) vs = splice X o (v :: vs) := by
      unfold splice
      rw [List.set_eq_take_append_cons_drop, if_pos (by omega)]
      have hl1 : (X.take o ++ [v]).length = o + 1 := by simp; omega
      rw [show X.take o ++ v :: X.drop (o + 1) = (X.take o ++ [v]) ++ X.drop (o + 1) by simp, List.take_append_of_le_length (by omega), List.take_of_length_le (by omega),
        List.drop_append, hl1, List.drop_of_length_le (by rw [hl1]; omega), List.nil_append, List.drop_drop, List.length_cons]
      simp only [List.append_assoc, List.singleton_append, List.cons_append]
      rw [show o + 1 + (o + 1 + vs.length - (o + 1)) = o + (vs.length + 1) by omega, List.nil_append]
    rwa [e2] at h2
theorem sets_far {t : TypeId} {cs : Array Value} (g : Nat) (vs : List Value) {h : Nat} (hne : h ≠ g) : ∀ (w : World) (o : Nat), Blk w h t cs → Blk (sets w g o vs) h t cs := by
  induction vs with
  | nil => intro w o hb; exact hb
  | cons v vs ih => intro w o hb; exact ih _ _ (hb.far (p := ⟨g, o, none⟩) hne v)
theorem Rw.put_ [Inhabited α] {w : World} {g n c k : Nat} {l : List α} (h : Rw C t w (some ⟨g, 0, none⟩) n c l) (hk : k < n) (x : α) : Rw C t (sets w g (k * C.size) (C.enc x)) (some ⟨g, 0, none⟩) n c (l.set k x) := by
  rcases h.form with ⟨e, _⟩ | ⟨g', cur, e, hb, h1, h2, h3, h4⟩
  · cases e
  obtain rfl : g = g' := by injection e with e; injection e
  have hks : (k + 1) * C.size ≤ n * C.size := Nat.mul_le_mul_right _ hk
  rw [Nat.add_mul, Nat.one_mul] at hks
  have hnc : n * C.size ≤ c * C.size := Nat.mul_le_mul_right _ h1
  have h5 : cur.toList.length = c * C.size := by simpa using h3
  have hsb := sets_blk (t := t) g (C.enc x) w (k * C.size) cur.toList (by simpa using hb) (by rw [C.len, h5]; omega)
  refine Rw.mk' (by rw [List.length_set]; exact h.1) hsb h1 h2 (by rw [List.size_toArray, length_splice _ _ _ (by rw [C.len, h5]; omega)]; exact h5) ?_
  show (splice cur.toList (k * C.size) (C.enc x)).take (n * C.size) = _
  rw [flat_set (by rw [h.1]; exact hk), ← h4]
  unfold splice
  have e1 : (cur.toList.take (k * C.size) ++ C.enc x).length = k * C.size + C.size := by rw [List.length_append, C.len, List.length_take, h5]; omega
  rw [← List.append_assoc, List.take_append, e1, List.take_of_length_le (by rw [e1]; omega), C.len, List.take_take, Nat.min_eq_left (by omega), List.drop_take]
  simp only [List.append_assoc]
structure Elt (P : Program) (C : Cod α) (S t : TypeId) where
  i : TypeInfo
  z : Value
  bytes : Nat
  und : P.underlying S = some (.slice t)
  info : P.info? t = some i
  zero : i.zero = some z
  size : i.size = C.size
  byt : i.bytes = bytes
  zs : z.cells.size = C.size
  few : bytes ≤ 1000
def Lay (C : Cod α) (t : TypeId) (w : World) (b : Nat) (W : World) (v : Value) (L : List α) : Prop := ∃ A c, v = .slice A L.length c ∧ Rw C t W A L.length c L ∧ (∀ i, own A = some i → b ≤ i) ∧ Kept w W
theorem Lay.nil (w : World) (b : Nat) {W : World} (h : Kept w W) : Lay C t w b W (.slice none 0 0) [] := ⟨none, 0, rfl, Rw.nil W, (fun i e => by cases e), h⟩
theorem Lay.more {w W W' : World} {b : Nat} {v : Value} {L : List α} (h : Lay C t w b W v L) (k : Kept W W') : Lay C t w b W' v L := by
  obtain ⟨A, c, e, r, f, k'⟩ := h
  exact ⟨A, c, e, r.kept k, f, k'.trans k⟩
theorem Lay.drewN {w W : World} {b : Nat} {v : Value} {L : List α} (h : Lay C t w b W v L) (n : Nat) : Lay C t w b (W.drewN n) v L := h.more ((Kept.refl W).drewN n)
theorem Lay.drew {w W : World} {b : Nat} {v : Value} {L : List α} (h : Lay C t w b W v L) : Lay C t w b W.drew v L := h.more (Kept.refl W).drew
theorem news_row {w : World} {A : Option Addr} {g n c : Nat} {l : List α} (h : Rw C t w (some ⟨g, 0, none⟩) n c l) : ∀ j u, (flat C l)[j]? = some u → w.cell? ((⟨g, 0, none⟩ : Addr).add j) = some u := fun j u hj => by
  have hl : j < n * C.size := by have := (List.getElem?_eq_some_iff.1 hj).1; rwa [flat_length, h.1] at this
  rw [Addr.add_lit, Nat.zero_add, h.2.cellAt j hl]; exact hj
theorem news_one (W : World) (x : α) : ∀ j u, (flat C [x])[j]? = some u → (W.alloc (.cells (C.enc x).toArray t)).cell? ((⟨W.heap.size, 0, none⟩ : Addr).add j) = some u := fun j u hj => by
  rw [Addr.add_lit, Nat.zero_add, (Blk.new W t (C.enc x).toArray).cell j]; simpa [flat] using hj
theorem Lay.grow {w W w' : World} {b n c m : Nat} {A : Option Addr} {v' : Value} {L N : List α} (hl : L.length = n) (hn : N.length = m) (hf : ∀ i, own A = some i → b ≤ i) (hk : Kept w W) (hw : w.heap.size ≤ b) (hb : b ≤ W.heap.size)
    (k1 : w'.ownsRow 0 t C.size v' (n + m) (flat C L ++ flat C N)) (k2 : W.grownBy w' (Value.slice A n c).ownBlock) (k4 : v'.ownBlock = (Value.slice A n c).ownBlock ∨ v'.ownBlock = some W.heap.size) :
    Lay C t w b w' v' (L ++ N) := by
  rw [← flat_append] at k1
  obtain ⟨A', c', rfl, hrow, _⟩ := Rw.of_own k1 (by simp [hl, hn])
  rw [own_block, own_block] at k4
  refine ⟨A', c', by simp [hl, hn], by simpa [hl, hn] using hrow, fun i e => ?_, hk.grown k2 (fun k e => by rw [own_block] at e; exact Nat.le_trans hw (hf k e))⟩
  rcases k4 with h | h
  · exact hf i (by rw [← h]; exact e)
  · rw [h] at e; have := Option.some.inj e; omega
theorem run_lay {P : Program} {S : TypeId} (E : Elt P C S t) {w W : World} {b c : Nat} {A : Option Addr} {L N : List α} (ty : TypeId) (hrow : Rw C t W A L.length c L) (hf : ∀ i, own A = some i → b ≤ i) (hk : Kept w W) (hw : w.heap.size ≤ b) (hb : b ≤ W.heap.size)
    (hlen : L.length + N.length ≤ 1000000) {B : Option Addr} {m d : Nat} (hN : Rw C t W B m d N) :
    ∃ v' w', (Builtin.append_ #[S, S] ty #[.slice A L.length c, .slice B m d]).run P W = .ok v' w' ∧ Lay C t w b w' v' (L ++ N) ∧ W.grownBy w' (own A) := by
  rcases hN.form with ⟨rfl, rfl, rfl, rfl⟩ | ⟨g, cur, rfl, hbk, _⟩
  · refine ⟨_, _, run_append_owned_none (P := P) (w := W) 0 S ty t E.i C.size E.und E.info _ L.length _ hrow.2, ⟨A, c, by simp, by simpa using hrow, hf, hk⟩, World.grownBy.refl W _⟩
  · have hm := hN.1
    subst hm
    obtain ⟨v', w', hr, h2, h3, h4, h5⟩ := run_append_own_at (P := P) W 0 S ty t E.i E.z C.size E.bytes E.und E.info E.zero E.size E.byt E.zs C.pos
      (.slice A L.length c) L.length (flat C L) hrow.2 ⟨g, 0, none⟩ N.length d (flat C N) (flat_length N) (news_row (A := none) hN) (flat_one _) (by unfold maxLen; omega)
      (by have := E.few; calc (L.length + N.length) * E.bytes ≤ 1000000 * 1000 := Nat.mul_le_mul hlen this
            _ ≤ 140737488355328 := by decide) (Nat.zero_le _)
    exact ⟨v', w', hr, Lay.grow rfl rfl hf hk hw hb h2 h3 h5, by rw [own_block] at h3; exact h3⟩
theorem wpList_lay {P : Program} {S : TypeId} (E : Elt P C S t) {w W W1 : World} {ops : Array Oper} {rest : List Oper} {o : Oper} {a : Act} {Q : Exit → Act → World → Prop} (hgd : o.guard = none) (s x : Operand)
    (ho : o.op = .call { callee := .builtin .append, args := #[s, x], argTypes := #[S, S] }) {b : Nat} {v : Value} {L : List α} (y : α) (hs : a.eval s = v) (hlay : Lay C t w b W v L) (hW : W1 = W.alloc (.cells (C.enc y).toArray t)) (hw : w.heap.size ≤ b) (hb : b ≤ W.heap.size) (hlen : L.length ≤ 100000)
    (hx : a.eval x = .slice (some ⟨W.heap.size, 0, none⟩) 1 1)
    (h : ∀ v' w', Hid (Lay C t w b w' v' (L ++ [y])) → Hid (W1.grownBy w' v.ownBlock) → wpList P ops Q rest (a.put o.dst v') w') : wpList P ops Q (o :: rest) a W1 := by
  subst hW
  obtain ⟨A, c, rfl, hrow, hf, hk⟩ := hlay
  have hone : Rw C t (W.alloc (.cells (C.enc y).toArray t)) (some ⟨W.heap.size, 0, none⟩) 1 1 [y] := Rw.mk' rfl (Blk.new _ _ _) (by omega) (by unfold maxLen; omega) (by simp [C.len]) (by simp only [flat, List.append_nil]; exact List.take_of_length_le (by rw [C.len]; omega))
  obtain ⟨v', w', hr, h1, h2⟩ := run_lay E (N := [y]) o.type (hrow.kept ((Kept.refl W).alloc _)) hf (hk.alloc _) hw (by simp; omega) (by simp; omega) hone
  exact Lib.wpList_append_run _ hgd s x _ _ ho _ _ hs hx _ _ hr (h v' w' h1 (by show World.grownBy _ _ _; rw [own_block]; exact h2))
theorem wpList_lays {P : Program} {S : TypeId} (E : Elt P C S t) {w W : World} {ops : Array Oper} {rest : List Oper} {o : Oper} {a : Act} {Q : Exit → Act → World → Prop} (hgd : o.guard = none) (s x : Operand)
    (ho : o.op = .call { callee := .builtin .append, args := #[s, x], argTypes := #[S, S] }) {b : Nat} {v : Value} {L N : List α} (hs : a.eval s = v) (hlay : Lay C t w b W v L) (hw : w.heap.size ≤ b) (hb : b ≤ W.heap.size) (hlen : L.length + N.length ≤ 1000000)
    {B : Option Addr} {m d : Nat} (hN : Rw C t W B m d N) (hx : a.eval x = .slice B m d)
    (h : ∀ v' w', Hid (Lay C t w b w' v' (L ++ N)) → Hid (W.grownBy w' v.ownBlock) → wpList P ops Q rest (a.put o.dst v') w') : wpList P ops Q (o :: rest) a W := by
  obtain ⟨A, c, rfl, hrow, hf, hk⟩ := hlay
  obtain ⟨v', w', hr, h1, h2⟩ := run_lay E o.type hrow hf hk hw hb hlen hN
  exact Lib.wpList_append_run _ hgd s x _ _ ho _ _ hs hx _ _ hr (h v' w' h1 (by show World.grownBy _ _ _; rw [own_block]; exact h2))
theorem step_lays {P : Program} {S : TypeId} (E : Elt P C S t) {w W : World} {ops : Array Oper} {o : Oper} {a : Act} {K : Act → World → Prop} {Q : Exit → Act → World → Prop} {Z : Prop} (hgd : o.guard = none) (s x : Operand)
    (ho : o.op = .call { callee := .builtin .append, args := #[s, x], argTypes := #[S, S] }) {b : Nat} {v : Value} {L N : List α} (hs : a.eval s = v) (hlay : Lay C t w b W v L) (hw : w.heap.size ≤ b) (hb : b ≤ W.heap.size) (hlen : L.length + N.length ≤ 1000000)
    {B : Option Addr} {m d : Nat} (hN : Rw C t W B m d N) (hx : a.eval x = .slice B m d)
    (h : ∀ v' w', Hid (Lay C t w b w' v' (L ++ N)) → Hid (W.grownBy w' v.ownBlock) → K (a.put o.dst v') w') : if Region.wanted o (yielded ops a.tmps) = true then Oper.wp P o a W K Q else Z := by
  have hwt : Region.wanted o (yielded ops a.tmps) = true := by simp [Region.wanted, hgd]
  rw [if_pos hwt]
  obtain ⟨A, c, rfl, hrow, hf, hk⟩ := hlay
  obtain ⟨v', w', hr, h1, h2⟩ := run_lay E o.type hrow hf hk hw hb hlen hN
  exact Lib.wp_append_run _ s x _ _ ho _ _ hs hx _ _ hr (h v' w' h1 (by show World.grownBy _ _ _; rw [own_block]; exact h2))
end Go.Proofs.YtilkgjpgoogiiaaGreat.Cd
namespace Go.Proofs.YtilkgjpgoogiiaaGreat.Hd
open Go
variable {P : Program} {md : Region.Mode} {ops : Array Oper} {Q : Exit → Act → World → Prop} {S S' : World → Prop}
theorem wpAnyH_turn (h : ∀ w, S' w → S w) : ∀ (fuel : Nat) (listed : Array Bool) (a : Act) (w : World), wpAnyH P md ops Q S' fuel listed a w → wpAnyH P md ops Q S fuel listed a w
  | 0, _, _, _, h' => h'
  | fuel + 1, _, _, _, h' => ⟨h'.1, fun i hi => wpOp_mono (fun a' w' h'' => ⟨h _ h''.1, wpAnyH_turn h fuel _ a' w' h''.2⟩) (h'.2 i hi)⟩
end Go.Proofs.YtilkgjpgoogiiaaGreat.Hd
namespace Go.Proofs.YtilkgjpgoogiiaaGreat.Hd
open Go
section
variable {F : Fence} {n : Nat} {P : Program} {ops : Array Oper} {Q : Exit → Act → World → Prop} {md : Region.Mode} {S : World → Prop} {T : Nat → Bool}
def YieldsS (P : Program) (ops : Array Oper) (S : World → Prop) (o : Oper) (v : Value) (a : Act) : Prop := YieldsIf P ops S o v a ∧ ∀ w, o.about P w a.eval = none
theorem YieldsS.wpOpIn {i : Nat} {o : Oper} {v : Value} {a : Act} (hnd : ∀ c, o.op ≠ .defer c) (hi : ops[i]? = some o) (hy : YieldsS P ops S o v a)
    {K : Act → World → Prop} {w : World} (hS : S w) (h : K (a.put o.dst v) w) : wpOpIn F n P ops Q i K a w := by
  unfold Go.wpOpIn
  simp only [hi]
  have hab : ∀ f, o.about P w a.eval = some f → F.fn f := fun f hf => by rw [hy.2 w] at hf; cases hf
  rcases hy.1 with ⟨hw, hv⟩ | ⟨hw, rfl⟩
  · simp only [hw, if_true, Oper.wpIn, Oper.semAt_plain F _ _ hnd, hv w hS, Oper.uponIn]; exact ⟨hab, h⟩
  · simp only [hw, Bool.false_eq_true, if_false]; exact ⟨hab, h⟩
theorem YieldsS.of_same {o : Oper} {v : Value} {a a' : Act} (hy : YieldsS P ops S o v a) (he : execOp a'.eval o = execOp a.eval o)
    (hw : Region.wanted o (yielded ops a'.tmps) = Region.wanted o (yielded ops a.tmps)) (hb : ∀ w, o.about P w a'.eval = o.about P w a.eval) : YieldsS P ops S o v a' :=
  ⟨hy.1.of_same he hw, fun w => by rw [hb w]; exact hy.2 w⟩
theorem wpOpIn_putS {j : Nat} {oi oj : Oper} {v : Value} (hnd : ∀ c, oj.op ≠ .defer c) (hj : ops[j]? = some oj) (hap : oi.apart ops oj = true)
    (hsi : ∀ cs b, oi.op ≠ .select cs b) (hsj : ∀ cs b, oj.op ≠ .select cs b)
    (hQ : ∀ c a w, Q (.panic c) (a.put oi.dst v) w → Q (.panic c) a w) {K : Act → World → Prop} {a : Act} {w : World}
    (hy : YieldsS P ops S oi v a) (h : wpOpIn F n P ops Q j K (a.put oi.dst v) w) :
    wpOpIn F n P ops Q j (fun a' w' => YieldsS P ops S oi v a' ∧ K (a'.put oi.dst v) w') a w := by
  obtain ⟨h1, h2, h3⟩ := Oper.apart_spec hap
  have keep : ∀ (a : Act), YieldsS P ops S oi v a → ∀ u, YieldsS P ops S oi v (a.put oj.dst u) := fun a hy u =>
    hy.of_same (execOp_put oi hsi a oj.dst u h3) (wanted_put oi a oj.dst u h3) (fun w => about_put oi w a oj.dst u h3)
  have keepD : ∀ d, YieldsS P ops S oi v { a with defers := d :: a.defers } := fun d => hy.of_same rfl rfl (fun _ => rfl)
  unfold wpOpIn at *
  simp only [hj] at *
  rw [wanted_put oj a oi.dst v h1, about_put oj w a oi.dst v h1] at h
  split
  · rename_i hw
    simp only [hw, if_true] at h
    unfold Oper.wpIn at *
    rw [about_put oj w a oi.dst v h1] at h
    refine ⟨h.1, ?_⟩
    have h := h.2
    rw [Oper.semAt_plain F _ _ hnd, execOp_put oj hsj a oi.dst v h1] at h
    rw [Oper.semAt_plain F _ _ hnd]
    generalize (execOp a.eval oj).run P w = r at *
    cases r with
    | ok x w' =>
      cases x <;> simp only [Oper.uponIn] at h ⊢
      case value u => exact ⟨keep a hy u, by rw [← Act.put_comm a v u h2]; exact h⟩
      case skip => exact ⟨keep a hy _, by rw [← Act.put_comm a v undef h2]; exact h⟩
      case defer d =>
        refine ⟨keep _ (keepD d) _, ?_⟩
        rw [← Act.put_comm _ v undef h2, ← Act.put_defers]
        exact h
      case enter f args =>
        refine ⟨h.1, CallsIn.mono h.2 fun e w'' he => ?_⟩
        cases e with
        | returned u => exact ⟨keep a hy u, by rw [← Act.put_comm a v u h2]; exact he⟩
        | panicked c => exact hQ _ _ _ he
        | outgrown => exact he
      case row row args => exact ⟨h.1, RowsIn.mono h.2 fun u w'' he => ⟨keep a hy u, by rw [← Act.put_comm a v u h2]; exact he⟩⟩
      case round l f tmps assign body =>
        refine ⟨h.1, RoundIn.mono h.2 fun e w'' he => ?_⟩
        cases e with
        | returned u => exact ⟨keep a hy u, by rw [← Act.put_comm a v u h2]; exact he⟩
        | panicked c => exact hQ _ _ _ he
        | outgrown => exact he
    | halt x w' =>
      cases x <;> simp only [Oper.uponIn] at h ⊢
      case panic u => exact hQ _ _ _ h
  · rename_i hw
    simp only [hw] at h
    exact ⟨h.1, keep a hy _, by rw [← Act.put_comm a v undef h2]; exact h.2⟩
def wpAnyInT (F : Fence) (n : Nat) (P : Program) (md : Region.Mode) (ops : Array Oper) (Q : Exit → Act → World → Prop) (T : Nat → Bool) (S : World → Prop) : Nat → Array Bool → Act → World → Prop
  | 0, listed, a, w => Region.ready md ops listed = [] ∧ Q .normal a w
  | fuel + 1, listed, a, w =>
    (Region.ready md ops listed = [] → Q .normal a w) ∧
    ∀ i ∈ Region.ready md ops listed, wpOpIn F n P ops Q i (fun a' w' => (T i = false → S w') ∧ wpAnyInT F n P md ops Q T S fuel (listed.setIfInBounds i true) a' w') a w
theorem wpAnyIn_of_T : ∀ (fuel : Nat) (listed : Array Bool) (a : Act) (w : World), wpAnyInT F n P md ops Q T S fuel listed a w → wpAnyIn F n P md ops Q fuel listed a w
  | 0, _, _, _, h => h
  | fuel + 1, _, _, _, h => ⟨h.1, fun i hi => wpOpIn_mono (fun a' w' h' => wpAnyIn_of_T fuel _ a' w' h'.2) (h.2 i hi)⟩
theorem wpAnyInT_first {i : Nat} {oi : Oper} {v : Value} (hnd : ∀ (j : Nat) (o : Oper) c, ops[j]? = some o → o.op ≠ .defer c) (hi : ops[i]? = some oi) (hsel : ∀ (j : Nat) (o : Oper) cs b, ops[j]? = some o → o.op ≠ .select cs b)
    (hQ : ∀ c a w, Q (.panic c) (a.put oi.dst v) w → Q (.panic c) a w) (hT : ∀ (j : Nat) (oj : Oper), ops[j]? = some oj → T j = true → ∃ e ∈ oj.after, Region.binds md e = true ∧ e.on = i) :
    ∀ (fuel : Nat) (listed : Array Bool) (a : Act) (w : World),
      (∀ j oj, ops[j]? = some oj → j ≠ i → listed.getD j true = false → (∀ e ∈ oj.after, Region.binds md e = true → e.on ≠ i) → oi.apart ops oj = true) →
      i ∈ Region.ready md ops listed → YieldsS P ops S oi v a → S w →
      wpAnyInT F n P md ops Q T S fuel (listed.setIfInBounds i true) (a.put oi.dst v) w → wpAnyInT F n P md ops Q T S (fuel + 1) listed a w := by
  intro fuel
  induction fuel with
  | zero =>
    intro listed a w _ hr hy hS H
    refine ⟨fun h => (by rw [h] at hr; cases hr), fun j hj => ?_⟩
    by_cases hji : j = i
    · subst hji; exact hy.wpOpIn (fun c => hnd j oi c hi) hi hS ⟨fun _ => hS, H⟩
    · have := ready_mono hj hji
      rw [H.1] at this
      cases this
  | succ fuel ih =>
    intro listed a w hfree hr hy hS H
    refine ⟨fun h => (by rw [h] at hr; cases hr), fun j hj => ?_⟩
    by_cases hji : j = i
    · subst hji; exact hy.wpOpIn (fun c => hnd j oi c hi) hi hS ⟨fun _ => hS, H⟩
    · have h1 := H.2 j (ready_mono hj hji)
      obtain ⟨hjun, oj, hoj, hall⟩ := mem_ready.1 hj
      have hnot : ∀ e ∈ oj.after, Region.binds md e = true → e.on ≠ i := fun e he hb heq => by
        have h1 := hall e he hb
        have h0 := (mem_ready.1 hr).1
        rw [heq] at h1
        rcases Nat.lt_or_ge i listed.size with h' | h'
        · simp [h'] at h0 h1; rw [h0] at h1; cases h1
        · simp [Array.getElem?_eq_none h'] at h1
      have hTj : T j = false := by
        cases h : T j with
        | false => rfl
        | true =>
          obtain ⟨e, he, hb, ho⟩ := hT j oj hoj h
          exact absurd ho (hnot e he hb)
      have h2 := wpOpIn_putS (fun c => hnd j oj c hoj) hoj (hfree j oj hoj hji hjun hnot) (fun cs b => hsel i oi cs b hi) (fun cs b => hsel j oj cs b hoj) hQ hy h1
      have hfree' : ∀ k ok, ops[k]? = some ok → k ≠ i → (listed.setIfInBounds j true).getD k true = false →
          (∀ e ∈ ok.after, Region.binds md e = true → e.on ≠ i) → oi.apart ops ok = true := fun k ok hk hki hun hno => by
        refine hfree k ok hk hki ?_ hno
        by_cases hjk : j = k
        · subst hjk; exact hjun
        · rw [getD_set_ne true hjk] at hun; exact hun
      refine wpOpIn_mono (fun a' w' h3 => ⟨fun _ => h3.2.1 hTj, ih (listed.setIfInBounds j true) a' w' hfree' (ready_mono hr (Ne.symm hji)) h3.1 (h3.2.1 hTj) ?_⟩) h2
      rw [Array.setIfInBounds_comm _ _ hji]
      exact h3.2.2
def noDefer (ops : Array Oper) : Bool := ops.all fun o => match o.op with | .defer .. => false | _ => true
theorem noDefer_spec (h : noDefer ops = true) (j : Nat) (o : Oper) (c : Call) (ho : ops[j]? = some o) : o.op ≠ .defer c := by
  intro heq
  have := Array.all_eq_true_iff_forall_mem.1 h o (Array.mem_of_getElem? ho)
  simp [heq] at this
def waits (md : Region.Mode) (ops : Array Oper) (T : Nat → Bool) (i : Nat) : Bool := (List.range ops.size).all fun j => !T j || match ops[j]? with | some o => o.after.toList.any (fun e => Region.binds md e && e.on == i) | none => true
theorem waits_spec {i : Nat} (h : waits md ops T i = true) (j : Nat) (oj : Oper) (hj : ops[j]? = some oj) (ht : T j = true) : ∃ e ∈ oj.after, Region.binds md e = true ∧ e.on = i := by
  have h1 := List.all_eq_true.1 h j (List.mem_range.2 (Array.getElem?_eq_some_iff.1 hj).1)
  simp only [hj, ht, Bool.not_true, Bool.false_or] at h1
  obtain ⟨e, he, h2⟩ := List.any_eq_true.1 h1
  rw [Bool.and_eq_true, beq_iff_eq] at h2
  exact ⟨e, by simpa using he, h2.1, h2.2⟩
theorem wpAnyInT_take {i : Nat} {oi : Oper} {v : Value} {fuel : Nat} {listed : Array Bool} {a : Act} {w : World} (hi : ops[i]? = some oi)
    (hs : Region.noSelect ops = true) (hd : noDefer ops = true) (hf : Region.free md ops listed i = true) (hr : (Region.ready md ops listed).contains i = true) (hT : waits md ops T i = true)
    (hQ : ∀ c a w, Q (.panic c) (a.put oi.dst v) w → Q (.panic c) a w) (hy : YieldsIf P ops S oi v a) (hb : ∀ w, oi.about P w a.eval = none) (hS : S w)
    (h : wpAnyInT F n P md ops Q T S fuel (listed.setIfInBounds i true) (a.put oi.dst v) w) : wpAnyInT F n P md ops Q T S (fuel + 1) listed a w :=
  wpAnyInT_first (noDefer_spec hd) hi (Region.noSelect_spec hs) hQ (waits_spec hT) fuel listed a w (Region.free_spec hi hf) (by simpa using hr) ⟨hy, hb⟩ hS h
theorem wpAnyInT_one {i : Nat} {o : Oper} {fuel : Nat} {listed : Array Bool} {a : Act} {w : World} (hr : Region.ready md ops listed = [i]) (ho : ops[i]? = some o) (hw : Region.wanted o (yielded ops a.tmps) = true)
    (h : ∀ K' : Act → World → Prop, Shut (∀ a w, (T i = false → S w) → wpAnyInT F n P md ops Q T S fuel (listed.setIfInBounds i true) a w → K' a w) → Oper.wpIn F n P o a w K' Q) : wpAnyInT F n P md ops Q T S (fuel + 1) listed a w := by
  refine ⟨fun h0 => (by rw [hr] at h0; cases h0), fun j hj => ?_⟩
  rw [hr] at hj
  obtain rfl := List.mem_singleton.1 hj
  refine wpOpIn_step ho fun K' hK => ?_
  rw [if_pos hw]
  exact h K' (fun a w h1 h2 => hK a w ⟨h1, h2⟩)
theorem wpAnyInT_done {listed : Array Bool} {a : Act} {w : World} (hr : Region.ready md ops listed = []) (h : Q .normal a w) : ∀ fuel, wpAnyInT F n P md ops Q T S fuel listed a w
  | 0 => ⟨hr, h⟩
  | _ + 1 => ⟨fun _ => h, by rw [hr]; simp⟩
theorem wpIn_region_T {id : Nat} {a : Act} {w : World} (T : Nat → Bool) (S : World → Prop) (hm : P.follows .mixedOrders = true)
    (h : wpAnyInT F n P .any ops Q T S ops.size (Array.replicate ops.size false) a w.drew) : (Code.region id ops true).wpIn F n P Q a w :=
  wpIn_region_any hm (wpAnyIn_of_T _ _ _ _ h)
end
end Go.Proofs.YtilkgjpgoogiiaaGreat.Hd
