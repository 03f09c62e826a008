/-
  Arguments opened: bytes, numbers. (For every layer; no laid variable.)
-/
import Derived.Test.YtlfgidkjbjlaiaaBytC
import Derived.Test.YtlfgidkjbjlaiaaOpen
import Derived.Lib.SmallJoins
import Derived.Deep.Slices
import Derived.Deep.Fields
import Derived.ProofKit
import Derived.LaidMore
import Derived.OpenShut
import Derived.Stop.Joined
namespace Go.Proofs.Ytlfgidkjbjlaiaa.Row
open Go.ChangeShapes Go.WideShapes Go.ChangeAt Go.RowKit OctM Oct
set_option linter.unusedVariables false

theorem cByte : Try.prog.cellsOf 5 = 1 := by kernel_rfl
variable {H : Type} {enc : TypeId × Value → H} {W : World}

theorem byte_wf {x : Int} (h : (Lit.int .u8 x).wf = true) : 0 ≤ x ∧ x < 256 := by
  have hb : (0 : Int) ≤ x ∧ x ≤ 255 := by simpa [Lit.wf, IntKind.min, IntKind.max, IntKind.signed, IntKind.bits] using h
  omega

theorem add_plain (b o k : Nat) : (⟨b, o, none⟩ : Addr).add k = ⟨b, o + k, none⟩ := by unfold Addr.add; split <;> simp_all

/-- An address at which a cell lies bears no spot. -/
theorem no_spot {w : World} {a : Addr} {v : Value} (h : w.cell? a = some v) : a = ⟨a.block, a.off, none⟩ := by
  obtain ⟨b, o, s⟩ := a
  unfold World.cell? at h
  split at h
  · cases s with
    | none => rfl
    | some _ => simp at h
  · cases h

/-- Bytes that came in, nil or not. -/
theorem open_bytes {a0 : Option Addr} {len cap : Nat} {d0 : DataW H} {p : List MemPlace}
    (h0 : DataW.Trod enc Try.prog W 0 (fun _ => true) true 22 (.slice a0 len cap) d0 p) : ∃ l : List Int, Byt W a0 len cap l := by
  obtain ⟨fuel, hf⟩ := h0
  rcases open_ints Try.underlying22 Try.underlying5 cByte hf with ⟨hcs, hx⟩ | ⟨a, len', cap', zs, hcs, _, hl, hm, hz, hx, hcell, hwz⟩
  · simp [Value.cells] at hcs
    obtain ⟨rfl, rfl, rfl⟩ := hcs
    exact ⟨[], Byt.nil W⟩
  · simp [Value.cells] at hcs
    obtain ⟨rfl, rfl, rfl⟩ := hcs
    simp only [if_true] at hz
    refine ⟨zs.take len, by simp; omega, hl, hm, fun x hx' => byte_wf (hwz x (List.mem_of_mem_take hx')), (fun h => by cases h), fun hn => ?_⟩
    have hc0 := hcell 0 (by omega)
    have hs := no_spot hc0
    have ha : a.add 0 = a := by simp [Addr.add]
    rw [ha] at hs hc0
    refine ⟨a.block, a.off, by rw [← hs], World.block_lt_of_cell? _ _ hc0, fun k hk => ?_⟩
    have := hcell k (by omega)
    have ek : a.add k = ⟨a.block, a.off + k, none⟩ := by have := add_plain a.block a.off k; rw [← hs] at this; exact this
    rw [ek] at this
    rw [this]
    simp [nth, List.getD, hk]

end Go.Proofs.Ytlfgidkjbjlaiaa.Row
