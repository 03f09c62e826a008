/-
  Arguments that are slices of numbers, of arrays of numbers, of structs of numbers: what their cells hold. (For every layer; no laid variable.)
-/
import Derived.Test.YtcjfaegmbbpcaaaWord
import Derived.Lib.SmallJoins
import Derived.Deep.Slices
import Derived.Deep.Fields
import Derived.ProofKit
import Derived.LaidMore
import Derived.OpenShut
import Derived.Stop.Joined
namespace Go.Proofs.Ytcjfaegmbbpcaaa.Num
open Go.ChangeShapes Go.WideShapes Go.ChangeAt Go.RowKit Wd
set_option linter.unusedVariables false
set_option linter.unusedSimpArgs false

/-- A slice of rows of s numbers each. -/
structure Grid (s : Nat) (w : World) (A : Option Addr) (n c : Nat) (f : Nat → Nat → Int) : Prop where
  cap : n ≤ c
  most : c ≤ maxLen
  lies : 0 < n → ∃ b o, A = some ⟨b, o, none⟩ ∧ b < w.heap.size ∧ ∀ k, k < n → ∀ j, j < s → w.cell? ⟨b, o + k * s + j, none⟩ = some (.int .i64 (f k j))
theorem Grid.kept {s : Nat} {w w' : World} {A : Option Addr} {n c : Nat} {f : Nat → Nat → Int} (h : Grid s w A n c f) (k : Kept w w') : Grid s w' A n c f :=
  ⟨h.cap, h.most, fun hn => by
    obtain ⟨b, o, rfl, hb, hc⟩ := h.lies hn
    exact ⟨b, o, rfl, Nat.lt_of_lt_of_le hb k.size, fun i hi j hj => (Below.cell k (p := ⟨b, o + i * s + j, none⟩) hb).trans (hc i hi j hj)⟩⟩
theorem Grid.upto {s : Nat} {w : World} {A : Option Addr} {n c : Nat} {f : Nat → Nat → Int} (h : Grid s w A n c f) (k : Nat) (hk : k ≤ n) : Grid s w A k c f :=
  ⟨Nat.le_trans hk h.cap, h.most, fun hn => by
    obtain ⟨b, o, rfl, hb, hc⟩ := h.lies (by omega)
    exact ⟨b, o, rfl, hb, fun i hi j hj => hc i (by omega) j hj⟩⟩

theorem add_plain (b o k : Nat) : (⟨b, o, none⟩ : Addr).add k = ⟨b, o + k, none⟩ := by unfold Addr.add; split <;> simp_all
/-- An address at which a cell lies bears no spot. -/
theorem no_spot {w : World} {a : Addr} {v : Value} (h : w.cell? a = some v) : a = ⟨a.block, a.off, none⟩ := by
  obtain ⟨b, o, s⟩ := a
  unfold World.cell? at h
  split at h
  · cases s with
    | none => rfl
    | some _ => simp at h
  · cases h

variable {H : Type} {enc : TypeId × Value → H} {P : Program} {W : World}

theorem open_grid {t e : TypeId} {s : Nat} (hs0 : 0 < s) (ht : P.underlying t = some (.slice e)) (hC : P.cellsOf e = s)
    (hcell : ∀ fuel cs x, DataW.trod enc P W 0 (fun _ => true) true fuel e cs = some x → ∀ j, j < s → ∃ v, cs[j]? = some (Value.int .i64 v))
    {a0 : Option Addr} {len cap : Nat} {d0 : DataW H} {p : List MemPlace} (h0 : DataW.Trod enc P W 0 (fun _ => true) true t (.slice a0 len cap) d0 p) : ∃ f, Grid s W a0 len cap f := by
  obtain ⟨fuel, hf⟩ := h0
  rcases Go.Deep.open_slice ht hf with ⟨hcs, hx⟩ | ⟨a, len', cap', m, n, D, Pl, hcs, _, hl, hm, hmm, hx, hi⟩
  · simp [Value.cells] at hcs
    obtain ⟨rfl, rfl, rfl⟩ := hcs
    exact ⟨fun _ _ => 0, Nat.le_refl _, by simp [maxLen], fun h => absurd h (by omega)⟩
  · simp [Value.cells] at hcs
    obtain ⟨rfl, rfl, rfl⟩ := hcs
    simp only [if_true] at hmm
    have key : ∀ k, k < len → ∀ j, j < s → ∃ v, W.cell? (a.add (k * s + j)) = some (Value.int .i64 v) := by
      intro k hk j hj
      obtain ⟨cs', hc, htr⟩ := hi k (by omega)
      rw [hC] at hc
      obtain ⟨_, hcl, hat⟩ := World.cells?_some hc
      obtain ⟨v, hv⟩ := hcell _ _ _ htr j hj
      refine ⟨v, ?_⟩
      rw [← Go.Deep.add_add, hat j hj, hv]
    refine ⟨fun k j => @Classical.epsilon Int ⟨0⟩ (fun v => W.cell? (a.add (k * s + j)) = some (Value.int .i64 v)), hl, hm, fun hn => ?_⟩
    obtain ⟨v0, hv0⟩ := key 0 hn 0 hs0
    have ha : a.add (0 * s + 0) = a := by simp [Addr.add]
    rw [ha] at hv0
    have hsp := no_spot hv0
    refine ⟨a.block, a.off, by rw [← hsp], World.block_lt_of_cell? _ _ hv0, fun k hk j hj => ?_⟩
    have hkj := key k hk j hj
    have ek : a.add (k * s + j) = ⟨a.block, a.off + k * s + j, none⟩ := by have := add_plain a.block a.off (k * s + j); rw [← hsp, ← Nat.add_assoc] at this; exact this
    have h2 := Classical.epsilon_spec hkj
    rw [← ek]; exact h2

/-- An array of numbers: each of its cells is one. -/
theorem cells_array {e i : TypeId} {s : Nat} (he : P.underlying e = some (.array s i)) (hi : P.underlying i = some (.int .i64)) (hci : P.cellsOf i = 1) :
    ∀ fuel cs x, DataW.trod enc P W 0 (fun _ => true) true fuel e cs = some x → ∀ j, j < s → ∃ v, cs[j]? = some (Value.int .i64 v) := by
  intro fuel cs x h j hj
  obtain ⟨xs, m, _, _, hl, hy, hall⟩ := DataW.trod_array he h
  have h1 := hall j hj
  rw [hci, Nat.mul_one, List.getElem?_eq_getElem (by omega)] at h1
  obtain ⟨v, h2, _, _⟩ := DataW.trod_int hi h1
  refine ⟨v, ?_⟩
  have := congrArg List.head? h2
  rw [List.head?_take, if_neg (by omega), List.head?_drop] at this
  simpa using this
/-- A struct of numbers: each of its cells is one. -/
theorem cells_struct {e i : TypeId} {fs : Array Field} {s : Nat} (he : P.underlying e = some (.struct fs)) (hs : fs.size = s) (hi : P.underlying i = some (.int .i64)) (hci : P.cellsOf i = 1)
    (hfs : ∀ j, j < s → ∃ g, fs[j]? = some g ∧ g.offset = j ∧ g.type = i) :
    ∀ fuel cs x, DataW.trod enc P W 0 (fun _ => true) true fuel e cs = some x → ∀ j, j < s → ∃ v, cs[j]? = some (Value.int .i64 v) := by
  intro fuel cs x h j hj
  obtain ⟨xs, m, _, _, hl, hy, hall⟩ := DataW.trod_struct he h
  obtain ⟨g, hg, ho, hgt⟩ := hfs j hj
  have h1 := hall j g hg
  rw [ho, hgt, hci, List.getElem?_eq_getElem (by omega)] at h1
  obtain ⟨v, h2, _, _⟩ := DataW.trod_int hi h1
  refine ⟨v, ?_⟩
  have := congrArg List.head? h2
  rw [List.head?_take, if_neg (by omega), List.head?_drop] at this
  simpa using this
/-- A number. -/
theorem cells_int {i : TypeId} (hi : P.underlying i = some (.int .i64)) :
    ∀ fuel cs x, DataW.trod enc P W 0 (fun _ => true) true fuel i cs = some x → ∀ j, j < 1 → ∃ v, cs[j]? = some (Value.int .i64 v) := by
  intro fuel cs x h j hj
  obtain ⟨v, rfl, _, _⟩ := DataW.trod_int hi h
  exact ⟨v, by rw [show j = 0 by omega]; rfl⟩

theorem cInt : Try.prog.cellsOf 3 = 1 := by kernel_rfl
theorem open_nums {a0 : Option Addr} {len cap : Nat} {d0 : DataW H} {p : List MemPlace} (h0 : DataW.Trod enc Try.prog W 0 (fun _ => true) true 45 (.slice a0 len cap) d0 p) : ∃ f, Grid 1 W a0 len cap f :=
  open_grid (by omega) Try.underlying45 cInt (cells_int Try.underlying3) h0

end Go.Proofs.Ytcjfaegmbbpcaaa.Num
