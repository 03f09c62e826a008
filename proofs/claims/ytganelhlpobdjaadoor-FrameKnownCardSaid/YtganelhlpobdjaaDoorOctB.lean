/-
  Words for memory that the contracts of package octet use: what is kept, the table of sizes, bytes that a slice holds, bytes of the call's own.
-/
import Derived.Test.YtganelhlpobdjaaDoorRows
import Derived.Test.YtganelhlpobdjaaDoorOctM
import Derived.WalkKit
import Derived.WalkSpells
import Derived.WalkLawsBesides
import Derived.Below
import Derived.Lib.Hide
import Derived.Maps.AppendAt
import Derived.Deep.AppendLies
import Derived.OwnWalk
namespace Go.Proofs.YtganelhlpobdjaaDoor.Oct
open Go.RowKit OctM
set_option linter.unusedVariables false

/-- Of what was there nothing has turned. -/
def Kept (w w' : World) : Prop := Below w.heap.size w w'
set_option maxRecDepth 100000 in
theorem Kept.refl (w : World) : Kept w w := Below.refl _ _
set_option maxRecDepth 100000 in
theorem Kept.trans {a b c : World} (h : Kept a b) (k : Kept b c) : Kept a c := Below.trans h (Below.mono k h.size)
set_option maxRecDepth 100000 in
theorem Kept.alloc {a b : World} (h : Kept a b) (o : Obj) : Kept a (b.alloc o) := Below.alloc h h.size o
set_option maxRecDepth 100000 in
theorem Kept.drew {a b : World} (h : Kept a b) : Kept a b.drew := Below.drew h
set_option maxRecDepth 100000 in
theorem Kept.size {a b : World} (h : Kept a b) : a.heap.size ≤ b.heap.size := Below.size h

/-- The table of sizes, as the program lays it. -/
def Tab (w : World) : Prop := ∃ (t : TypeId) (fr : Nat × Nat), w.heap[0]? = some (.cells #[.int .i64 1, .int .i64 2, .int .i64 4, .int .i64 8] t fr)
set_option maxRecDepth 100000 in
theorem Tab.lt {w : World} (h : Tab w) : 0 < w.heap.size := by
  obtain ⟨t, fr, h⟩ := h
  exact (Array.getElem?_eq_some_iff.1 h).1
set_option maxRecDepth 100000 in
theorem Tab.kept {w w' : World} (h : Tab w) (k : Kept w w') : Tab w' := by
  have hl := h.lt
  obtain ⟨t, fr, h⟩ := h
  exact ⟨t, fr, (k.block _ hl).trans h⟩

set_option maxRecDepth 100000 in
theorem Tab.cells {w : World} (h : Tab w) : w.cell? ⟨0, 0, none⟩ = some (.int .i64 1) ∧ w.cell? ⟨0, 1, none⟩ = some (.int .i64 2) ∧ w.cell? ⟨0, 2, none⟩ = some (.int .i64 4) ∧ w.cell? ⟨0, 3, none⟩ = some (.int .i64 8) := by
  obtain ⟨t, fr, h⟩ := h
  exact ⟨cell_of_row w _ 0 _ t fr h, cell_of_row w _ 1 _ t fr h, cell_of_row w _ 2 _ t fr h, cell_of_row w _ 3 _ t fr h⟩
set_option maxRecDepth 100000 in
theorem tab_index0 (w : World) : (Instr.index 94 (.agg #[.int .i64 1, .int .i64 2, .int .i64 4, .int .i64 8]) (.int .i64 0)).run Tryd.prog w = .ok (.int .i64 1) w := by kernel_rfl
set_option maxRecDepth 100000 in
theorem tab_index1 (w : World) : (Instr.index 94 (.agg #[.int .i64 1, .int .i64 2, .int .i64 4, .int .i64 8]) (.int .i64 1)).run Tryd.prog w = .ok (.int .i64 2) w := by kernel_rfl
set_option maxRecDepth 100000 in
theorem tab_index2 (w : World) : (Instr.index 94 (.agg #[.int .i64 1, .int .i64 2, .int .i64 4, .int .i64 8]) (.int .i64 2)).run Tryd.prog w = .ok (.int .i64 4) w := by kernel_rfl
set_option maxRecDepth 100000 in
theorem tab_index3 (w : World) : (Instr.index 94 (.agg #[.int .i64 1, .int .i64 2, .int .i64 4, .int .i64 8]) (.int .i64 3)).run Tryd.prog w = .ok (.int .i64 8) w := by kernel_rfl

/-- A slice's parts hold these bytes (nil, if there is none, or whatever address). -/
structure Byt (w : World) (A : Option Addr) (n c : Nat) (l : List Int) : Prop where
  len : l.length = n
  cap : n ≤ c
  most : c ≤ maxLen
  byte : allByte l
  noth : A = none → c = 0
  lies : 0 < n → ∃ b o, A = some ⟨b, o, none⟩ ∧ b < w.heap.size ∧ ∀ k, k < n → w.cell? ⟨b, o + k, none⟩ = some (.int .u8 (nth l k))

set_option maxRecDepth 100000 in
theorem Byt.kept {w w' : World} {A : Option Addr} {n c : Nat} {l : List Int} (h : Byt w A n c l) (k : Kept w w') : Byt w' A n c l :=
  ⟨h.len, h.cap, h.most, h.byte, h.noth, fun hn => by
    obtain ⟨b, o, rfl, hb, hc⟩ := h.lies hn
    exact ⟨b, o, rfl, Nat.lt_of_lt_of_le hb k.size, fun j hj => (Below.cell k (p := ⟨b, o + j, none⟩) hb).trans (hc j hj)⟩⟩
set_option maxRecDepth 100000 in
theorem Byt.nil (w : World) : Byt w none 0 0 [] := ⟨rfl, Nat.le_refl _, by simp [maxLen], (fun _ h => by cases h), (fun _ => rfl), fun h => absurd h (by omega)⟩

/-- Bytes of the call's own, from block 'base' on. -/
def Own (w : World) (base : Nat) (v : Value) (l : List Int) : Prop := w.ownsRow base 5 1 v l.length (l.map (Value.int .u8)) ∧ allByte l

set_option maxRecDepth 100000 in
theorem Own.kept {w w' : World} {base : Nat} {v : Value} {l : List Int} (h : Own w base v l) (k : Kept w w') : Own w' base v l := by
  refine ⟨⟨h.1.1, ?_⟩, h.2⟩
  rcases h.1.2 with h0 | ⟨g, cap, cur, hv, hb, hh, r⟩
  · exact .inl h0
  · exact .inr ⟨g, cap, cur, hv, hb, (k.block g (Array.getElem?_eq_some_iff.1 hh).1).trans hh, r⟩
set_option maxRecDepth 100000 in
theorem Own.more {w : World} {base base' : Nat} {v : Value} {l : List Int} (h : Own w base v l) (hb : base' ≤ base) : Own w base' v l := by
  refine ⟨⟨h.1.1, ?_⟩, h.2⟩
  rcases h.1.2 with h0 | ⟨g, cap, cur, hv, hg, r⟩
  · exact .inl h0
  · exact .inr ⟨g, cap, cur, hv, Nat.le_trans hb hg, r⟩
set_option maxRecDepth 100000 in
/-- What is owned is a slice of these bytes. -/
theorem Own.byt {w : World} {base : Nat} {v : Value} {l : List Int} (h : Own w base v l) :
    ∃ A c, v = .slice A l.length c ∧ Byt w A l.length c l ∧ (0 < l.length → ∃ g, A = some ⟨g, 0, none⟩ ∧ base ≤ g ∧ g < w.heap.size) := by
  rcases h.1.2 with ⟨rfl, h0⟩ | ⟨g, cap, cur, rfl, hb, hh, hc, hm, hs, ht⟩
  · have : l = [] := List.eq_nil_of_length_eq_zero h0
    subst this
    exact ⟨none, 0, rfl, Byt.nil w, fun h => absurd h (by simp)⟩
  · have hlt := (Array.getElem?_eq_some_iff.1 hh).1
    refine ⟨_, cap, rfl, ⟨rfl, hc, hm, h.2, (fun h => by cases h), fun hn => ⟨g, 0, rfl, hlt, fun k hk => ?_⟩⟩, fun _ => ⟨g, rfl, hb, hlt⟩⟩
    have h1 := h.1.cellAt k (by omega)
    rw [Nat.zero_add, h1, List.getElem?_map, List.getElem?_eq_getElem hk]
    simp [nth, List.getD, hk]

set_option maxRecDepth 100000 in
theorem ret_int {k : IntKind} {a b : Int} (h : a = b) : Ending.returned (.int k a) = .returned (.int k b) := by rw [h]
set_option maxRecDepth 100000 in
theorem ret_bool {a b : Bool} (h : a = b) : Ending.returned (.bool a) = .returned (.bool b) := by rw [h]

set_option maxRecDepth 100000 in
theorem info_u8 : (Tryd.prog.info? 5).map (fun i => (i.zero, i.size, i.bytes)) = some (some (.int .u8 0), 1, 1) := by kernel_rfl
set_option maxRecDepth 100000 in
theorem info_tab : (Tryd.prog.info? 94).map (·.size) = some 4 := by kernel_rfl

end Go.Proofs.YtganelhlpobdjaaDoor.Oct
