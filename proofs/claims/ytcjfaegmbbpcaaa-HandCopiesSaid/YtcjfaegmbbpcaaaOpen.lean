/-
  How an argument that is an array of numbers is opened: its value, written out, and each number's bounds.
-/
import Derived.Test.YtcjfaegmbbpcaaaRows
import Derived.WalkKit
import Derived.ProofKit
import Derived.OpenShut
namespace Go.Proofs.Ytcjfaegmbbpcaaa.Open
open Go.ChangeShapes Go.WideShapes Go.ChangeAt Go.RowKit
variable {H : Type} {enc : TypeId × Value → H} {P : Program} {w : World} {base : Nat} {spare : Nat → Bool} {held : Bool} {t : TypeId} {v : Value} {d : DataW H} {ps : List MemPlace}

theorem okWide_array {r : Reach} {b0 : Nat} {n : Nat} {e : TypeId} (ht : P.underlying t = some (.array n e)) (h : Value.okWide P w r b0 t v) : ∃ cs, v = .agg cs ∧ cs.size = P.cellsOf t := by
  simp only [Value.okWide, ht] at h
  obtain ⟨cs, h1, h2, _⟩ := h
  exact ⟨cs, h1, h2⟩

/-- An array of integers of one kind. -/
theorem open_array_int {r : Reach} {b0 : Nat} {n : Nat} {e : TypeId} {k : IntKind} (ht : P.underlying t = some (.array n e)) (he : P.underlying e = some (.int k)) (hce : P.cellsOf e = 1) (hct : P.cellsOf t = n)
    (hval : Value.okWide P w r b0 t v) (hd : DataW.Trod enc P w base spare held t v d ps) :
    ∃ xs : List Int, v = .agg (xs.map (Value.int k)).toArray ∧ xs.length = n ∧ ∀ x ∈ xs, (Lit.int k x).wf = true := by
  obtain ⟨cs, rfl, hsz⟩ := okWide_array ht hval
  obtain ⟨fuel, hf⟩ := hd
  obtain ⟨ys, m, _, _, hl, hy, hall⟩ := DataW.trod_array ht hf
  rw [hct] at hl hsz
  have hcells : (Value.agg cs).cells.toList = cs.toList := rfl
  rw [hcells] at hl hall
  have key : ∀ i, i < n → ∃ x, cs[i]? = some (Value.int k x) ∧ (Lit.int k x).wf = true := by
    intro i hi
    have h1 := hall i hi
    rw [hce, Nat.mul_one, List.getElem?_eq_getElem (by omega)] at h1
    obtain ⟨x, h2, _, h3⟩ := DataW.trod_int he h1
    refine ⟨x, ?_, h3⟩
    have h4 : (cs.toList.drop i).head? = some (Value.int k x) := by
      have := congrArg List.head? h2
      rw [List.head?_take, if_neg (by omega)] at this
      simpa using this
    rw [List.head?_drop] at h4
    simpa using h4
  refine ⟨cs.toList.map (fun c => match c with | .int _ x => x | _ => 0), ?_, by simpa using hl, ?_⟩
  · congr 1
    apply Array.ext
    · simp
    · intro i h1 h2
      obtain ⟨x, hx, _⟩ := key i (by omega)
      have : cs[i] = Value.int k x := by rw [Array.getElem?_eq_getElem h1] at hx; exact Option.some.inj hx
      simp [this]
  · intro x hx
    rw [List.mem_map] at hx
    obtain ⟨c, hc, rfl⟩ := hx
    obtain ⟨i, hi, rfl⟩ := List.getElem_of_mem hc
    obtain ⟨x, hx, hw⟩ := key i (by simpa [hsz] using hi)
    have : cs.toList[i] = Value.int k x := by
      rw [Array.getElem?_eq_getElem (by simpa using hi)] at hx; simpa using Option.some.inj hx
    rw [this]; exact hw

theorem open_array2 {r : Reach} {b0 : Nat} {e : TypeId} {k : IntKind} (ht : P.underlying t = some (.array 2 e)) (he : P.underlying e = some (.int k)) (hce : P.cellsOf e = 1) (hct : P.cellsOf t = 2)
    (hval : Value.okWide P w r b0 t v) (hd : DataW.Trod enc P w base spare held t v d ps) :
    ∃ x y : Int, v = .agg #[.int k x, .int k y] ∧ (Lit.int k x).wf = true ∧ (Lit.int k y).wf = true := by
  obtain ⟨xs, hv, hl, hw⟩ := open_array_int ht he hce hct hval hd
  match xs, hl with
  | [x, y], _ => exact ⟨x, y, by simpa using hv, hw x (by simp), hw y (by simp)⟩

end Go.Proofs.Ytcjfaegmbbpcaaa.Open
