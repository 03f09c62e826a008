/-
  Bytes cut at the front; numbers that a slice holds; bytes and numbers that were just laid. (For every layer.)
-/
import Derived.Test.YtlfgidkjbjlaiaaBytE
namespace Go.Proofs.Ytlfgidkjbjlaiaa.Oct
open Go.RowKit OctM
set_option linter.unusedSimpArgs false
set_option linter.unusedVariables false

/-- The address behind a cut at k. -/
def cutA (A : Option Addr) (c k : Nat) : Option Addr := if c = k then A else A.map (·.add k)
theorem run_cut (A : Option Addr) (n c k : Nat) (hk : k ≤ n) (w : World) : (Instr.slice 22 (.slice A n c) (some (.int .i64 (k : Int))) none none).run Try.prog w = .ok (.slice (cutA A c k) (n - k) (c - k)) w := by
  rw [run_slice_l (P := Try.prog) w 22 A n c Try.underlying22 .i64 (k : Int) (by omega) (by omega)]
  show ((sizeOf 5).run Try.prog w).andThen _ = _
  rw [size_u8]
  simp [sliced, cutA]

theorem Byt.cut {w : World} {A : Option Addr} {n c : Nat} {l : List Int} (h : Byt w A n c l) (k : Nat) (hk : k ≤ n) : Byt w (cutA A c k) (n - k) (c - k) (l.drop k) := by
  have hl := h.len
  have hc := h.cap
  have hm := h.most
  refine ⟨by simp [hl], by omega, by omega, fun x hx => h.byte x (List.mem_of_mem_drop hx), fun e => ?_, fun hn => ?_⟩
  · have : A = none := by unfold cutA at e; split at e; exact e; cases A <;> simp_all
    rw [h.noth this]; omega
  · obtain ⟨b, o, rfl, hb, hcell⟩ := h.lies (by omega)
    refine ⟨b, o + k, ?_, hb, fun j hj => ?_⟩
    · unfold cutA; rw [if_neg (by omega)]; simp [Addr.add]
    · have := hcell (k + j) (by omega)
      rw [Nat.add_assoc, this]
      simp [nth, List.getD, List.getElem?_drop]

/-- A slice's parts hold these numbers. -/
structure Nums (w : World) (A : Option Addr) (n c : Nat) (l : List Int) : Prop where
  len : l.length = n
  cap : n ≤ c
  most : c ≤ maxLen
  lies : 0 < n → ∃ b o, A = some ⟨b, o, none⟩ ∧ b < w.heap.size ∧ ∀ k, k < n → w.cell? ⟨b, o + k, none⟩ = some (.int .i64 (nth l k))
theorem Nums.kept {w w' : World} {A : Option Addr} {n c : Nat} {l : List Int} (h : Nums w A n c l) (k : Kept w w') : Nums w' A n c l :=
  ⟨h.len, h.cap, h.most, fun hn => by
    obtain ⟨b, o, rfl, hb, hc⟩ := h.lies hn
    exact ⟨b, o, rfl, Nat.lt_of_lt_of_le hb k.size, fun j hj => (Below.cell k (p := ⟨b, o + j, none⟩) hb).trans (hc j hj)⟩⟩

/-- Numbers that were just laid. -/
theorem nums_lit (w : World) (l : List Int) (hn : l.length ≤ maxLen) : Nums (w.alloc (.cells (l.map (Value.int .i64)).toArray 3)) (some ⟨w.heap.size, 0, none⟩) l.length l.length l :=
  ⟨rfl, Nat.le_refl _, hn, fun _ => ⟨w.heap.size, 0, rfl, by simp, fun k hk => by
    rw [Nat.zero_add, cell_of_row _ w.heap.size k _ _ _ (heap_alloc_new w _)]
    simp [nth, List.getD, hk]⟩⟩

end Go.Proofs.Ytlfgidkjbjlaiaa.Oct
