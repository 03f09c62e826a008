/-
  A seed that came in: two numbers, pairs of numbers, numbers.
-/
import Derived.Test.YtgbeankindcloaaDoorOctRow
import Derived.Test.YtgbeankindcloaaDoorNum
namespace Go.Proofs.YtgbeankindcloaaDoor.Row
open Go.ChangeShapes Go.WideShapes Go.ChangeAt Go.RowKit Num
set_option linter.unusedVariables false
set_option maxRecDepth 100000

variable {H : Type} {enc : TypeId × Value → H} {W : World}
theorem cPair : Tryd.prog.cellsOf 76 = 2 := by kernel_rfl
theorem cNums : Tryd.prog.cellsOf 49 = 1 := by kernel_rfl
theorem cPairs : Tryd.prog.cellsOf 48 = 1 := by kernel_rfl
theorem open_pairs {a0 : Option Addr} {len cap : Nat} {d0 : DataW H} {p : List MemPlace} (h0 : DataW.Trod enc Tryd.prog W 0 (fun _ => true) true 48 (.slice a0 len cap) d0 p) : ∃ f, Grid 2 W a0 len cap f :=
  open_grid (by omega) Tryd.underlying48 cPair (cells_array Tryd.underlying76 Tryd.underlying3 cInt) h0

/-- A seed. -/
theorem open_seed {r : Reach} {b0 : Nat} {v : Value} {d : DataW H} {ps : List MemPlace} (hval : Value.okWide Tryd.prog W r b0 51 v) (hd : DataW.Trod enc Tryd.prog W 0 (fun _ => true) true 51 v d ps) :
    ∃ (x y : Int) (A B : Option Addr) (n c m e : Nat) (f g : Nat → Nat → Int), v = .agg #[.int .i64 x, .int .i64 y, .slice A n c, .slice B m e] ∧ Grid 2 W A n c f ∧ Grid 1 W B m e g := by
  obtain ⟨v0, v1, v2, v3, y0, y1, y2, y3, n, rfl, _, _, h0, h1, h2, h3⟩ := Joins.open_agg4 Tryd.underlying51 (by kernel_rfl) (by kernel_rfl) hval hd
  obtain ⟨a, e0, _, _⟩ := DataW.trod_int Tryd.underlying3 h0
  obtain ⟨b, e1, _, _⟩ := DataW.trod_int Tryd.underlying3 h1
  simp at e0 e1
  have s2 : ∃ (A : Option Addr) (l c : Nat), v2 = .slice A l c := by
    rcases Go.Deep.open_slice Tryd.underlying48 h2 with ⟨hcs, _⟩ | ⟨a, l, c, _, _, _, _, hcs, _⟩
    · simp at hcs; exact ⟨_, _, _, hcs⟩
    · simp at hcs; exact ⟨_, _, _, hcs⟩
  have s3 : ∃ (A : Option Addr) (l c : Nat), v3 = .slice A l c := by
    rcases Go.Deep.open_slice Tryd.underlying49 h3 with ⟨hcs, _⟩ | ⟨a, l, c, _, _, _, _, hcs, _⟩
    · simp at hcs; exact ⟨_, _, _, hcs⟩
    · simp at hcs; exact ⟨_, _, _, hcs⟩
  obtain ⟨A, l2, c2, rfl⟩ := s2
  obtain ⟨B, l3, c3, rfl⟩ := s3
  obtain ⟨f, gf⟩ := open_pairs ⟨n, by simpa [Value.cells] using h2⟩
  obtain ⟨g, gg⟩ := Num.open_nums ⟨n, by simpa [Value.cells] using h3⟩
  exact ⟨a, b, A, B, l2, c2, l3, c3, f, g, by rw [e0, e1], gf, gg⟩

end Go.Proofs.YtgbeankindcloaaDoor.Row
