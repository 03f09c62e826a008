/-
  What the rows of layer 2 share: the laid table of sizes as the walks want it; arguments opened: bytes, numbers.
-/
import Derived.Test.YtganelhlpobdjaaDoorOctNums
import Derived.Test.YtganelhlpobdjaaDoorOpen
import Derived.Lib.SmallJoins
import Derived.Deep.Slices
import Derived.Deep.Fields
import Derived.ProofKit
import Derived.LaidMore
import Derived.OpenShut
import Derived.Stop.Joined
namespace Go.Proofs.YtganelhlpobdjaaDoor.Row
open Go.ChangeShapes Go.WideShapes Go.ChangeAt Go.RowKit OctM Oct
set_option linter.unusedVariables false

set_option maxRecDepth 100000 in
theorem own : ownKnob Tryd.prog.godebug = none := by kernel_rfl
set_option maxRecDepth 100000 in
theorem laidOut : laidOutB Tryd.prog = true := by kernel_rfl
set_option maxRecDepth 100000 in
theorem gSizes : Tryd.prog.globalNamed "sounder/octet.sizes" = some 0 := by kernel_rfl
set_option maxRecDepth 100000 in
theorem tSizes : (Tryd.prog.globals[0]?).map (·.type) = some 94 := by kernel_rfl
set_option maxRecDepth 100000 in
theorem cInt : Tryd.prog.cellsOf 3 = 1 := by kernel_rfl
set_option maxRecDepth 100000 in
theorem cByte : Tryd.prog.cellsOf 5 = 1 := by kernel_rfl
set_option maxRecDepth 100000 in
theorem cTab : Tryd.prog.cellsOf 94 = 4 := by kernel_rfl
def laid1 : List (String × DataW Unit) := [("sounder/octet.sizes", Rows.laid_sounder_octet_sizes)]
set_option maxRecDepth 100000 in
/-- The heap that the program's own initialiser leaves meets the condition. -/
theorem door_met (os : Os) (args : Array Value) : laidMetH Tryd.prog laid1 ((World.doorLaid Tryd.prog 400 os).forCall (fun _ _ => 0) ⟨#[], args, []⟩).memory :=
  laidMetH_of_parts3 (fuel := 8) (laidMet_of_run' 8 (by kernel_rfl) (by kernel_rfl)) (by kernel_rfl) (by kernel_rfl)

set_option maxRecDepth 100000 in
/-- What the condition gives the walks. -/
theorem tab_of {W : World} (h : laidMetH Tryd.prog laid1 W) : Tab W := by
  rw [MakeChecks.laidMetH_plain _ _ _ (by kernel_rfl)] at h
  obtain ⟨ps, ⟨g, t, cs, f, p, q, hg, ht, hv, hd, _, _⟩, _, _⟩ := h
  obtain rfl := Option.some.inj (gSizes.symm.trans hg)
  obtain rfl := Option.some.inj (tSizes.symm.trans ht)
  obtain ⟨xs, m, rfl, hx, hlen, hn, hel⟩ := DataW.trod_array Tryd.underlying94 hd
  rw [cTab] at hlen
  rw [cInt] at hel
  obtain ⟨l⟩ := cs
  match l, hlen, xs, hn with
  | [c0, c1, c2, c3], _, [x0, x1, x2, x3], _ =>
    have h0 := hel 0 (by decide)
    have h1 := hel 1 (by decide)
    have h2 := hel 2 (by decide)
    have h3 := hel 3 (by decide)
    simp at h0 h1 h2 h3
    obtain ⟨n0, e0, rfl, _⟩ := DataW.trod_int Tryd.underlying3 h0
    obtain ⟨n1, e1, rfl, _⟩ := DataW.trod_int Tryd.underlying3 h1
    obtain ⟨n2, e2, rfl, _⟩ := DataW.trod_int Tryd.underlying3 h2
    obtain ⟨n3, e3, rfl, _⟩ := DataW.trod_int Tryd.underlying3 h3
    simp [Rows.laid_sounder_octet_sizes] at hx e0 e1 e2 e3
    obtain ⟨⟨rfl, rfl, rfl, rfl⟩, _⟩ := hx
    subst e0; subst e1; subst e2; subst e3
    unfold World.var? at hv
    rw [gSizes] at hv
    simp only [Option.bind_some] at hv
    split at hv
    · rename_i cs t fr hh
      obtain rfl := Option.some.inj hv
      exact ⟨t, fr, hh⟩
    · cases hv

variable {H : Type} {enc : TypeId × Value → H} {W : World}

set_option maxRecDepth 100000 in
theorem byte_wf {x : Int} (h : (Lit.int .u8 x).wf = true) : 0 ≤ x ∧ x < 256 := by
  have hb : (0 : Int) ≤ x ∧ x ≤ 255 := by simpa [Lit.wf, IntKind.min, IntKind.max, IntKind.signed, IntKind.bits] using h
  omega

set_option maxRecDepth 100000 in
theorem add_plain (b o k : Nat) : (⟨b, o, none⟩ : Addr).add k = ⟨b, o + k, none⟩ := by unfold Addr.add; split <;> simp_all

set_option maxRecDepth 100000 in
/-- An address at which a cell lies bears no spot. -/
theorem no_spot {w : World} {a : Addr} {v : Value} (h : w.cell? a = some v) : a = ⟨a.block, a.off, none⟩ := by
  obtain ⟨b, o, s⟩ := a
  unfold World.cell? at h
  split at h
  · cases s with
    | none => rfl
    | some _ => simp at h
  · cases h

set_option maxRecDepth 100000 in
/-- Bytes that came in, nil or not. -/
theorem open_bytes {a0 : Option Addr} {len cap : Nat} {d0 : DataW H} {p : List MemPlace}
    (h0 : DataW.Trod enc Tryd.prog W 0 (fun _ => true) true 27 (.slice a0 len cap) d0 p) : ∃ l : List Int, Byt W a0 len cap l := by
  obtain ⟨fuel, hf⟩ := h0
  rcases open_ints Tryd.underlying27 Tryd.underlying5 cByte hf with ⟨hcs, hx⟩ | ⟨a, len', cap', zs, hcs, _, hl, hm, hz, hx, hcell, hwz⟩
  · simp [Value.cells] at hcs
    obtain ⟨rfl, rfl, rfl⟩ := hcs
    exact ⟨[], Byt.nil W⟩
  · simp [Value.cells] at hcs
    obtain ⟨rfl, rfl, rfl⟩ := hcs
    simp only [if_true] at hz
    refine ⟨zs.take len, by simp; omega, hl, hm, fun x hx' => byte_wf (hwz x (List.mem_of_mem_take hx')), (fun h => by cases h), fun hn => ?_⟩
    have hc0 := hcell 0 (by omega)
    have hs := no_spot hc0
    have ha : a.add 0 = a := by simp [Addr.add]
    rw [ha] at hs hc0
    refine ⟨a.block, a.off, by rw [← hs], World.block_lt_of_cell? _ _ hc0, fun k hk => ?_⟩
    have := hcell k (by omega)
    have ek : a.add k = ⟨a.block, a.off + k, none⟩ := by have := add_plain a.block a.off k; rw [← hs] at this; exact this
    rw [ek] at this
    rw [this]
    simp [nth, List.getD, hk]

set_option maxRecDepth 100000 in
/-- Numbers that came in, nil or not. -/
theorem open_nums {a0 : Option Addr} {len cap : Nat} {d0 : DataW H} {p : List MemPlace}
    (h0 : DataW.Trod enc Tryd.prog W 0 (fun _ => true) true 49 (.slice a0 len cap) d0 p) : ∃ l : List Int, Nums W a0 len cap l := by
  obtain ⟨fuel, hf⟩ := h0
  rcases open_ints Tryd.underlying49 Tryd.underlying3 cInt hf with ⟨hcs, hx⟩ | ⟨a, len', cap', zs, hcs, _, hl, hm, hz, hx, hcell, hwz⟩
  · simp [Value.cells] at hcs
    obtain ⟨rfl, rfl, rfl⟩ := hcs
    exact ⟨[], rfl, Nat.le_refl _, by simp [maxLen], fun h => absurd h (by omega)⟩
  · simp [Value.cells] at hcs
    obtain ⟨rfl, rfl, rfl⟩ := hcs
    simp only [if_true] at hz
    refine ⟨zs.take len, by simp; omega, hl, hm, fun hn => ?_⟩
    have hc0 := hcell 0 (by omega)
    have hs := no_spot hc0
    have ha : a.add 0 = a := by simp [Addr.add]
    rw [ha] at hs hc0
    refine ⟨a.block, a.off, by rw [← hs], World.block_lt_of_cell? _ _ hc0, fun k hk => ?_⟩
    have := hcell k (by omega)
    have ek : a.add k = ⟨a.block, a.off + k, none⟩ := by have := add_plain a.block a.off k; rw [← hs] at this; exact this
    rw [ek] at this
    rw [this]
    simp [nth, List.getD, hk]

end Go.Proofs.YtganelhlpobdjaaDoor.Row
