/-
  Words for arguments: numbers that a slice holds, rows of three numbers that a slice holds.
-/
import Derived.Test.YtganelhlpobdjaaDoorOctB
namespace Go.Proofs.YtganelhlpobdjaaDoor.Oct
open Go.RowKit OctM
set_option linter.unusedVariables false

/-- A slice's parts hold these numbers. -/
structure Nums (w : World) (A : Option Addr) (n c : Nat) (l : List Int) : Prop where
  len : l.length = n
  cap : n ≤ c
  most : c ≤ maxLen
  lies : 0 < n → ∃ b o, A = some ⟨b, o, none⟩ ∧ b < w.heap.size ∧ ∀ k, k < n → w.cell? ⟨b, o + k, none⟩ = some (.int .i64 (nth l k))
set_option maxRecDepth 100000 in
theorem Nums.kept {w w' : World} {A : Option Addr} {n c : Nat} {l : List Int} (h : Nums w A n c l) (k : Kept w w') : Nums w' A n c l :=
  ⟨h.len, h.cap, h.most, fun hn => by
    obtain ⟨b, o, rfl, hb, hc⟩ := h.lies hn
    exact ⟨b, o, rfl, Nat.lt_of_lt_of_le hb k.size, fun j hj => (Below.cell k (p := ⟨b, o + j, none⟩) hb).trans (hc j hj)⟩⟩

/-- Row k of a list. -/
def rowA (l : List (Int × Int × Int)) (k : Nat) : Int := (l.getD k (0, 0, 0)).1
def rowB (l : List (Int × Int × Int)) (k : Nat) : Int := (l.getD k (0, 0, 0)).2.1
def rowC (l : List (Int × Int × Int)) (k : Nat) : Int := (l.getD k (0, 0, 0)).2.2
/-- A slice's parts hold these rows of three numbers. -/
structure Rws (w : World) (A : Option Addr) (n c : Nat) (l : List (Int × Int × Int)) : Prop where
  len : l.length = n
  cap : n ≤ c
  most : c ≤ maxLen
  lies : 0 < n → ∃ b o, A = some ⟨b, o, none⟩ ∧ b < w.heap.size ∧ ∀ k, k < n → w.cell? ⟨b, o + k * 3, none⟩ = some (.int .i64 (rowA l k)) ∧ w.cell? ⟨b, o + k * 3 + 1, none⟩ = some (.int .i64 (rowB l k)) ∧ w.cell? ⟨b, o + k * 3 + 2, none⟩ = some (.int .i64 (rowC l k))
set_option maxRecDepth 100000 in
theorem Rws.upto {w : World} {A : Option Addr} {n c : Nat} {l : List (Int × Int × Int)} (h : Rws w A n c l) (k : Nat) (hk : k ≤ n) : Rws w A k c (l.take k) := by
  have hl := h.len
  have hc := h.cap
  refine ⟨by simp; omega, by omega, h.most, fun hn => ?_⟩
  obtain ⟨b, o, rfl, hb, hcell⟩ := h.lies (by omega)
  refine ⟨b, o, rfl, hb, fun j hj => ?_⟩
  have e : ∀ j, j < k → (l.take k).getD j (0, 0, 0) = l.getD j (0, 0, 0) := fun j hj => by simp [List.getD, hj]
  have := hcell j (by omega)
  unfold rowA rowB rowC at *
  rw [e j hj]; exact this

end Go.Proofs.YtganelhlpobdjaaDoor.Oct
