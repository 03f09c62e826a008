/-
  What the rows of layer 2 share: the laid table of sizes as the walks want it; arguments opened: bytes, numbers.
-/
import Derived.Test.YtdialcddknibhaaDoorOctNums
import Derived.Test.YtdialcddknibhaaDoorOpen
import Derived.Lib.SmallJoins
import Derived.Deep.Slices
import Derived.Deep.Fields
import Derived.ProofKit
import Derived.LaidMore
import Derived.OpenShut
import Derived.Stop.Joined
namespace Go.Proofs.YtdialcddknibhaaDoor.Row
open Go.ChangeShapes Go.WideShapes Go.ChangeAt Go.RowKit OctM Oct
set_option linter.unusedVariables false

theorem own : ownKnob Tryd.prog.godebug = none := by kernel_rfl
theorem laidOut : laidOutB Tryd.prog = true := by kernel_rfl
theorem gSizes : Tryd.prog.globalNamed "sounder/octet.sizes" = some 0 := by kernel_rfl
theorem tSizes : (Tryd.prog.globals[0]?).map (·.type) = some 58 := by kernel_rfl
theorem cInt : Tryd.prog.cellsOf 3 = 1 := by kernel_rfl
theorem cByte : Tryd.prog.cellsOf 5 = 1 := by kernel_rfl
theorem cTab : Tryd.prog.cellsOf 58 = 4 := by kernel_rfl
def laid1 : List (String × DataW Unit) := [("sounder/octet.sizes", Rows.laid_sounder_octet_sizes)]
/-- The heap that the program's own initialiser leaves meets the condition. -/
theorem door_met (os : Os) (args : Array Value) : laidMetH Tryd.prog laid1 ((World.doorLaid Tryd.prog 400 os).forCall (fun _ _ => 0) ⟨#[], args, []⟩).memory :=
  laidMetH_of_parts3 (fuel := 8) (laidMet_of_run' 8 (by kernel_rfl) (by kernel_rfl)) (by kernel_rfl) (by kernel_rfl)

/-- What the condition gives the walks. -/
theorem tab_of {W : World} (h : laidMetH Tryd.prog laid1 W) : Tab W := by
  rw [MakeChecks.laidMetH_plain _ _ _ (by kernel_rfl)] at h
  obtain ⟨ps, ⟨g, t, cs, f, p, q, hg, ht, hv, hd, _, _⟩, _, _⟩ := h
  obtain rfl := Option.some.inj (gSizes.symm.trans hg)
  obtain rfl := Option.some.inj (tSizes.symm.trans ht)
  obtain ⟨xs, m, rfl, hx, hlen, hn, hel⟩ := DataW.trod_array Tryd.underlying58 hd
  rw [cTab] at hlen
  rw [cInt] at hel
  obtain ⟨l⟩ := cs
  match l, hlen, xs, hn with
  | [c0, c1, c2, c3], _, [x0, x1, x2, x3], _ =>
    have h0 := hel 0 (by decide)
    have h1 := hel 1 (by decide)
    have h2 := hel 2 (by decide)
    have h3 := hel 3 (by decide)
    simp at h0 h1 h2 h3
    obtain ⟨n0, e0, rfl, _⟩ := DataW.trod_int Tryd.underlying3 h0
    obtain ⟨n1, e1, rfl, _⟩ := DataW.trod_int Tryd.underlying3 h1
    obtain ⟨n2, e2, rfl, _⟩ := DataW.trod_int Tryd.underlying3 h2
    obtain ⟨n3, e3, rfl, _⟩ := DataW.trod_int Tryd.underlying3 h3
    simp [Rows.laid_sounder_octet_sizes] at hx e0 e1 e2 e3
    obtain ⟨⟨rfl, rfl, rfl, rfl⟩, _⟩ := hx
    subst e0; subst e1; subst e2; subst e3
    unfold World.var? at hv
    rw [gSizes] at hv
    simp only [Option.bind_some] at hv
    split at hv
    · rename_i cs t fr hh
      obtain rfl := Option.some.inj hv
      exact ⟨t, fr, hh⟩
    · cases hv

variable {H : Type} {enc : TypeId × Value → H} {W : World}

theorem byte_wf {x : Int} (h : (Lit.int .u8 x).wf = true) : 0 ≤ x ∧ x < 256 := by
  have hb : (0 : Int) ≤ x ∧ x ≤ 255 := by simpa [Lit.wf, IntKind.min, IntKind.max, IntKind.signed, IntKind.bits] using h
  omega

theorem add_plain (b o k : Nat) : (⟨b, o, none⟩ : Addr).add k = ⟨b, o + k, none⟩ := by unfold Addr.add; split <;> simp_all

/-- An address at which a cell lies bears no spot. -/
theorem no_spot {w : World} {a : Addr} {v : Value} (h : w.cell? a = some v) : a = ⟨a.block, a.off, none⟩ := by
  obtain ⟨b, o, s⟩ := a
  unfold World.cell? at h
  split at h
  · cases s with
    | none => rfl
    | some _ => simp at h
  · cases h

/-- Bytes that came in, nil or not. -/
theorem open_bytes {a0 : Option Addr} {len cap : Nat} {d0 : DataW H} {p : List MemPlace}
    (h0 : DataW.Trod enc Tryd.prog W 0 (fun _ => true) true 22 (.slice a0 len cap) d0 p) : ∃ l : List Int, Byt W a0 len cap l := by
  obtain ⟨fuel, hf⟩ := h0
  rcases open_ints Tryd.underlying22 Tryd.underlying5 cByte hf with ⟨hcs, hx⟩ | ⟨a, len', cap', zs, hcs, _, hl, hm, hz, hx, hcell, hwz⟩
  · simp [Value.cells] at hcs
    obtain ⟨rfl, rfl, rfl⟩ := hcs
    exact ⟨[], Byt.nil W⟩
  · simp [Value.cells] at hcs
    obtain ⟨rfl, rfl, rfl⟩ := hcs
    simp only [if_true] at hz
    refine ⟨zs.take len, by simp; omega, hl, hm, fun x hx' => byte_wf (hwz x (List.mem_of_mem_take hx')), (fun h => by cases h), fun hn => ?_⟩
    have hc0 := hcell 0 (by omega)
    have hs := no_spot hc0
    have ha : a.add 0 = a := by simp [Addr.add]
    rw [ha] at hs hc0
    refine ⟨a.block, a.off, by rw [← hs], World.block_lt_of_cell? _ _ hc0, fun k hk => ?_⟩
    have := hcell k (by omega)
    have ek : a.add k = ⟨a.block, a.off + k, none⟩ := by have := add_plain a.block a.off k; rw [← hs] at this; exact this
    rw [ek] at this
    rw [this]
    simp [nth, List.getD, hk]

/-- Numbers that came in, nil or not. -/
theorem open_nums {a0 : Option Addr} {len cap : Nat} {d0 : DataW H} {p : List MemPlace}
    (h0 : DataW.Trod enc Tryd.prog W 0 (fun _ => true) true 33 (.slice a0 len cap) d0 p) : ∃ l : List Int, Nums W a0 len cap l := by
  obtain ⟨fuel, hf⟩ := h0
  rcases open_ints Tryd.underlying33 Tryd.underlying3 cInt hf with ⟨hcs, hx⟩ | ⟨a, len', cap', zs, hcs, _, hl, hm, hz, hx, hcell, hwz⟩
  · simp [Value.cells] at hcs
    obtain ⟨rfl, rfl, rfl⟩ := hcs
    exact ⟨[], rfl, Nat.le_refl _, by simp [maxLen], fun h => absurd h (by omega)⟩
  · simp [Value.cells] at hcs
    obtain ⟨rfl, rfl, rfl⟩ := hcs
    simp only [if_true] at hz
    refine ⟨zs.take len, by simp; omega, hl, hm, fun hn => ?_⟩
    have hc0 := hcell 0 (by omega)
    have hs := no_spot hc0
    have ha : a.add 0 = a := by simp [Addr.add]
    rw [ha] at hs hc0
    refine ⟨a.block, a.off, by rw [← hs], World.block_lt_of_cell? _ _ hc0, fun k hk => ?_⟩
    have := hcell k (by omega)
    have ek : a.add k = ⟨a.block, a.off + k, none⟩ := by have := add_plain a.block a.off k; rw [← hs] at this; exact this
    rw [ek] at this
    rw [this]
    simp [nth, List.getD, hk]

/-- Eight bytes that came in. -/
theorem open_eight {r : Reach} {b0 base : Nat} {spare : Nat → Bool} {held : Bool} {v : Value} {d : DataW H} {ps : List MemPlace} (hval : Value.okWide Tryd.prog W r b0 53 v) (hd : DataW.Trod enc Tryd.prog W base spare held 53 v d ps) :
    ∃ xs : List Int, v = .agg (xs.map (Value.int .u8)).toArray ∧ (xs.length = 8 ∧ allByte xs) := by
  obtain ⟨xs, hv, hl, hw⟩ := Open.open_array_int Tryd.underlying53 Tryd.underlying5 cByte (by kernel_rfl) hval hd
  exact ⟨xs, hv, hl, fun x hx => byte_wf (hw x hx)⟩

/-- A row of three numbers that came in. -/
theorem open_row {r : Reach} {b0 base : Nat} {spare : Nat → Bool} {held : Bool} {v : Value} {d : DataW H} {ps : List MemPlace} (hval : Value.okWide Tryd.prog W r b0 48 v) (hd : DataW.Trod enc Tryd.prog W base spare held 48 v d ps) :
    ∃ a b c : Int, v = .agg #[.int .i64 a, .int .i64 b, .int .i64 c] := by
  obtain ⟨v0, v1, v2, y0, y1, y2, n, rfl, _, _, h0, h1, h2⟩ := Joins.open_agg3 Tryd.underlying48 (by kernel_rfl) (by kernel_rfl) hval hd
  obtain ⟨a, e0, _, _⟩ := DataW.trod_int Tryd.underlying3 h0
  obtain ⟨b, e1, _, _⟩ := DataW.trod_int Tryd.underlying3 h1
  obtain ⟨c, e2, _, _⟩ := DataW.trod_int Tryd.underlying3 h2
  simp at e0 e1 e2
  exact ⟨a, b, c, by rw [e0, e1, e2]⟩

/-- Rows that came in, nil or not. -/
theorem open_rows {a0 : Option Addr} {len cap : Nat} {d0 : DataW H} {p : List MemPlace}
    (h0 : DataW.Trod enc Tryd.prog W 0 (fun _ => true) true 44 (.slice a0 len cap) d0 p) : ∃ l : List (Int × Int × Int), Rws W a0 len cap l := by
  obtain ⟨fuel, hf⟩ := h0
  have hC : Tryd.prog.cellsOf 48 = 3 := by kernel_rfl
  rcases Go.Deep.open_slice Tryd.underlying44 hf with ⟨hcs, _⟩ | ⟨a, len', cap', m, n, D, Pl, hcs, _, hl, hm, hmm, hx, hi⟩
  · simp [Value.cells] at hcs
    obtain ⟨rfl, rfl, rfl⟩ := hcs
    exact ⟨[], rfl, Nat.le_refl _, by simp [maxLen], fun h => absurd h (by omega)⟩
  · simp [Value.cells] at hcs
    obtain ⟨rfl, rfl, rfl⟩ := hcs
    simp only [if_true] at hmm
    subst hmm
    have key : ∀ i, i < len → ∃ x : Int × Int × Int, W.cell? ((a.add (i * 3)).add 0) = some (.int .i64 x.1) ∧ W.cell? ((a.add (i * 3)).add 1) = some (.int .i64 x.2.1) ∧ W.cell? ((a.add (i * 3)).add 2) = some (.int .i64 x.2.2) := by
      intro i hlt
      obtain ⟨cs', hc, ht'⟩ := hi i (by omega)
      rw [hC] at hc
      obtain ⟨_, hcl, hat⟩ := World.cells?_some hc
      obtain ⟨ys, n', _, _, _, hyl, hf⟩ := DataW.trod_struct Tryd.underlying48 ht'
      match cs', hcl, ys, hyl with
      | [c0, c1, c2], _, [y0, y1, y2], _ =>
        have f0 := hf 0 _ rfl
        have f1 := hf 1 _ rfl
        have f2 := hf 2 _ rfl
        simp [cInt] at f0 f1 f2
        obtain ⟨x0, e0, _, _⟩ := DataW.trod_int Tryd.underlying3 f0
        obtain ⟨x1, e1, _, _⟩ := DataW.trod_int Tryd.underlying3 f1
        obtain ⟨x2, e2, _, _⟩ := DataW.trod_int Tryd.underlying3 f2
        simp at e0 e1 e2
        refine ⟨(x0, x1, x2), ?_, ?_, ?_⟩
        · rw [hat 0 (by decide), e0]; rfl
        · rw [hat 1 (by decide), e1]; rfl
        · rw [hat 2 (by decide), e2]; rfl
    have pick : ∀ k, k ≤ len → ∃ l : List (Int × Int × Int), l.length = k ∧ ∀ i, i < k → W.cell? ((a.add (i * 3)).add 0) = some (.int .i64 (rowA l i)) ∧ W.cell? ((a.add (i * 3)).add 1) = some (.int .i64 (rowB l i)) ∧ W.cell? ((a.add (i * 3)).add 2) = some (.int .i64 (rowC l i)) := by
      intro k
      induction k with
      | zero => intro _; exact ⟨[], rfl, fun i h => absurd h (by omega)⟩
      | succ k ih =>
        intro hk
        obtain ⟨l, hl', h⟩ := ih (by omega)
        obtain ⟨x, hx⟩ := key k (by omega)
        refine ⟨l ++ [x], by simp [hl'], fun i hi => ?_⟩
        by_cases e : i = k
        · subst e
          have : (l ++ [x]).getD i (0, 0, 0) = x := by simp [List.getD, ← hl']
          unfold rowA rowB rowC; rw [this]; exact hx
        · have : (l ++ [x]).getD i (0, 0, 0) = l.getD i (0, 0, 0) := by simp [List.getD, List.getElem?_append_left (show i < l.length by omega)]
          have h' := h i (by omega)
          unfold rowA rowB rowC at *; rw [this]; exact h'
    obtain ⟨l, hl', h⟩ := pick len (Nat.le_refl _)
    refine ⟨l, hl', hl, hm, fun hn => ?_⟩
    have hc0 := (h 0 hn).1
    have ha : (a.add (0 * 3)).add 0 = a := by simp [Addr.add]
    rw [ha] at hc0
    have hs := no_spot hc0
    refine ⟨a.block, a.off, by rw [← hs], World.block_lt_of_cell? _ _ hc0, fun k hk => ?_⟩
    have ek : ∀ j, (a.add (k * 3)).add j = ⟨a.block, a.off + k * 3 + j, none⟩ := fun j => by
      have e1 := add_plain a.block a.off (k * 3)
      rw [← hs] at e1
      rw [e1, add_plain]
    have h' := h k hk
    rw [ek, ek, ek, Nat.add_zero] at h'
    exact h'

end Go.Proofs.YtdialcddknibhaaDoor.Row
