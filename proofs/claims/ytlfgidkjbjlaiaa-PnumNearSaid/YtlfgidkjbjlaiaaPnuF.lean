/-
  What is copied to a row of bytes of the call's own.
-/
import Derived.Test.YtlfgidkjbjlaiaaPnuE
import Derived.Laws.CopyOwn
namespace Go.Proofs.Ytlfgidkjbjlaiaa.Law
open Go.RowKit OctM Oct PnuM Pnu
set_option linter.unusedSimpArgs false
set_option linter.unusedVariables false

/-- Bytes laid over a row of noughts. -/
theorem fill_list (l : List Int) (hl : allByte l) (k : Nat) : ∃ L : List Int, L.length = k ∧ allByte L ∧ splice ((List.replicate k (0 : Int)).map (Value.int .u8)) 0 ((l.take k).map (Value.int .u8)) = L.map (Value.int .u8) := by
  refine ⟨l.take k ++ (List.replicate k (0 : Int)).drop (l.take k).length, ?_, ?_, ?_⟩
  · simp; omega
  · intro x hx
    rcases List.mem_append.1 hx with h | h
    · exact hl x (List.mem_of_mem_take h)
    · have := List.eq_of_mem_replicate (List.mem_of_mem_drop h)
      omega
  · simp [splice, List.map_drop]

/-- What is copied to a row of the call's own. -/
structure Fills (w : World) (A : Option Addr) (n c k : Nat) (cs : List Value) (L : List Int) : Prop where
  len : cs.length = Nat.min n k
  src : 0 < cs.length → ∃ ad, A = some ad ∧ ∀ j v, cs[j]? = some v → w.cell? (ad.add j) = some v
  one : ∀ v ∈ cs, v.oneCell' = true
  row : splice ((List.replicate k (0 : Int)).map (Value.int .u8)) 0 cs = L.map (Value.int .u8)
  long : L.length = k
  byte : allByte L
theorem fills_of {w : World} {A : Option Addr} {n c : Nat} {l : List Int} (h : Byt w A n c l) (k : Nat) : ∃ cs L, Fills w A n c k cs L := by
  obtain ⟨L, h1, h2, h3⟩ := fill_list l h.byte k
  have hl := h.len
  refine ⟨_, L, ?_, ?_, ?_, h3, h1, h2⟩
  · rw [List.length_map, List.length_take, hl]; exact Nat.min_comm _ _
  · intro hp
    have hn : 0 < n := by simp at hp; omega
    obtain ⟨b, o, rfl, hb, hc⟩ := h.lies hn
    refine ⟨_, rfl, fun j v hv => ?_⟩
    rw [List.getElem?_map, Option.map_eq_some_iff] at hv
    obtain ⟨y, hy, rfl⟩ := hv
    rw [List.getElem?_take] at hy
    split at hy
    · have hj := (List.getElem?_eq_some_iff.1 hy).1
      have h5 := hc j (by omega)
      have h6 : nth l j = y := by simp [nth, List.getD, hy]
      rw [h6] at h5
      rw [← h5]
      unfold Addr.add; split <;> simp_all
    · cases hy
  · exact ints_one _
theorem Fills.kept {w w' : World} {A : Option Addr} {n c k : Nat} {l : List Int} {cs : List Value} {L : List Int} (h : Fills w A n c k cs L) (hb : Byt w A n c l) (kk : Kept w w') : Fills w' A n c k cs L :=
  ⟨h.len, fun hp => by
    obtain ⟨ad, rfl, hs⟩ := h.src hp
    have hl := h.len
    obtain ⟨b, o, e, hbl, hc⟩ := hb.lies (by have : Nat.min n k ≤ n := Nat.min_le_left n k; omega)
    obtain rfl := Option.some.inj e
    refine ⟨_, rfl, fun j v hv => ?_⟩
    have h1 := hs j v hv
    have e1 : (⟨b, o, none⟩ : Addr).add j = ⟨b, o + j, none⟩ := by unfold Addr.add; split <;> simp_all
    rw [e1] at h1 ⊢
    exact (Below.cell kk (p := ⟨b, o + j, none⟩) hbl).trans h1, h.one, h.row, h.long, h.byte⟩
theorem row_zero (w : World) (k : Nat) (t : TypeId) (cs : Array Value) (h : cs = ((List.replicate k (0 : Int)).map (Value.int .u8)).toArray) : (w.alloc (.cells cs t)).heap[w.heap.size]? = some (.cells ((List.replicate k (0 : Int)).map (Value.int .u8)).toArray t (0, 0)) := by
  rw [← h]; exact heap_alloc_new w _

end Go.Proofs.Ytlfgidkjbjlaiaa.Law
