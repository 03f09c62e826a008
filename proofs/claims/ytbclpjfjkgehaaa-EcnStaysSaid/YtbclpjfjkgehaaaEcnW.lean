/-
  Words for ECN counts in memory; counts and arrays of three compared.
-/
import Derived.Test.YtbclpjfjkgehaaaEcnM
import Derived.Test.YtbclpjfjkgehaaaArr
import Derived.Laws.StructEq
import Derived.Deep.RegionWith
namespace Go.Proofs.Ytbclpjfjkgehaaa.Ecn
open Go.RowKit EcnM Wd
set_option linter.unusedVariables false
set_option linter.unusedSimpArgs false

abbrev cnA (x : Cn) : Array Value := #[.int .i64 x.s, .int .i64 x.a, .int .i64 x.b, .int .i64 x.c, .bool x.f]
abbrev cnV (x : Cn) : Value := .agg #[.int .i64 x.s, .int .i64 x.a, .int .i64 x.b, .int .i64 x.c, .bool x.f]
/-- What of a frame does not matter. -/
structure Rs where
  d : Int
  A : Option Addr
  n : Nat
  c : Nat
abbrev akA (r : Rs) (y : Fr) : Array Value := #[.int .i64 r.d, .slice r.A r.n r.c, .bool y.m, .int .i64 y.a, .int .i64 y.b, .int .i64 y.c]
abbrev akV (r : Rs) (y : Fr) : Value := .agg #[.int .i64 r.d, .slice r.A r.n r.c, .bool y.m, .int .i64 y.a, .int .i64 y.b, .int .i64 y.c]
abbrev thA (a b c : Int) : Array Value := #[.int .i64 a, .int .i64 b, .int .i64 c]
abbrev thV (a b c : Int) : Value := .agg #[.int .i64 a, .int .i64 b, .int .i64 c]
/-- What a call hands back; nothing that was there has turned. -/
def Gives (v : Value) (w : World) (e : Ending) (w' : World) : Prop := e = .returned v ∧ Kept w w'
def Same (v : Value) (w : World) (e : Ending) (w' : World) : Prop := e = .returned v ∧ w = w'

theorem guard_c : Try.prog.eqGuardType Try.prog.depth 24 = false := by kernel_rfl
theorem guard_r : Try.prog.eqGuardType Try.prog.depth 31 = false := by kernel_rfl
theorem guard_3 : Try.prog.eqGuardType Try.prog.depth 22 = false := by kernel_rfl
theorem eql_3 (a b c x y z : Int) (w : World) : (binOp .eql 22 (thV a b c) (thV x y z)).run Try.prog w = .ok (.bool (decide (a = x ∧ b = y ∧ c = z))) w := by
  have h := Arr.run_eql_ints (P := Try.prog) Try.underlying22 Try.underlying3 (fun w => by kernel_rfl) [a, b, c] [x, y, z] rfl rfl w
  have e : ([a, b, c] == [x, y, z]) = decide (a = x ∧ b = y ∧ c = z) := by rw [Bool.eq_iff_iff]; simp
  rw [e] at h
  exact h
theorem neq_3 (a b c x y z : Int) (w : World) : (binOp .neq 22 (thV a b c) (thV x y z)).run Try.prog w = .ok (.bool (!decide (a = x ∧ b = y ∧ c = z))) w := by
  have h := Arr.run_neq_ints (P := Try.prog) Try.underlying22 Try.underlying3 (fun w => by kernel_rfl) [a, b, c] [x, y, z] rfl rfl w
  have e : ([a, b, c] == [x, y, z]) = decide (a = x ∧ b = y ∧ c = z) := by rw [Bool.eq_iff_iff]; simp
  rw [e] at h
  exact h

set_option maxRecDepth 100000 in
theorem eql_cn (x y : Cn) (w : World) : (binOp .eql 24 (cnV x) (cnV y)).run Try.prog w = .ok (.bool (decide (x = y))) w := by
  have u3 := Try.underlying3
  have a3 := Try.isAgg3
  have z3 := Try.sizeOf3
  have u4 := Try.underlying4
  have a4 := Try.isAgg4
  have z4 := Try.sizeOf4
  have a5 := Try.isAgg22
  have z5 := Try.sizeOf22
  have hA := fun w => Arr.run_equal_ints (P := Try.prog) Try.underlying22 Try.underlying3 (fun w => by kernel_rfl) 9997 [x.a, x.b, x.c] [y.a, y.b, y.c] rfl rfl w
  have hS : Try.prog.underlying 24 = some (.struct (Try.prog.fieldsOf 24)) := by kernel_rfl
  have hp : Try.prog.stoodInHeld 24 = false := by kernel_rfl
  rw [run_eql_struct, show (10000 : Nat) = 9999 + 1 from rfl, run_equalIn_agg w 9999 _ _ _ hS hp]
  simp only [Program.fieldsOf, Try.underlying24]
  have e : ([x.a, x.b, x.c] == [y.a, y.b, y.c]) = decide (x.a = y.a ∧ x.b = y.b ∧ x.c = y.c) := by rw [Bool.eq_iff_iff]; simp
  rw [e] at hA
  have hA' : ∀ w, (Op.equalIn 9999 22 (.agg #[.int .i64 x.a, .int .i64 x.b, .int .i64 x.c]) (.agg #[.int .i64 y.a, .int .i64 y.b, .int .i64 y.c])).run Try.prog w = .ok (decide (x.a = y.a ∧ x.b = y.b ∧ x.c = y.c)) w := hA
  go_simp
  by_cases h : x = y
  · subst h; simp
  · rw [decide_eq_false h]
    by_cases h1 : x.s = y.s
    · by_cases h2 : x.a = y.a ∧ x.b = y.b ∧ x.c = y.c
      · by_cases h3 : x.f = y.f
        · exact absurd (Cn.ext' h1 h2.1 h2.2.1 h2.2.2 h3) h
        · simp [h1, h2, h3]
      · simp [h1, h2]
    · simp [h1]
set_option maxRecDepth 100000 in
theorem eql_rc (x y : Cn) (w : World) : (binOp .eql 31 (cnV x) (cnV y)).run Try.prog w = .ok (.bool (decide (x = y))) w := by
  have u3 := Try.underlying3
  have a3 := Try.isAgg3
  have z3 := Try.sizeOf3
  have u4 := Try.underlying4
  have a4 := Try.isAgg4
  have z4 := Try.sizeOf4
  have a5 := Try.isAgg22
  have z5 := Try.sizeOf22
  have hA := fun w => Arr.run_equal_ints (P := Try.prog) Try.underlying22 Try.underlying3 (fun w => by kernel_rfl) 9997 [x.a, x.b, x.c] [y.a, y.b, y.c] rfl rfl w
  have hS : Try.prog.underlying 31 = some (.struct (Try.prog.fieldsOf 31)) := by kernel_rfl
  have hp : Try.prog.stoodInHeld 31 = false := by kernel_rfl
  rw [run_eql_struct, show (10000 : Nat) = 9999 + 1 from rfl, run_equalIn_agg w 9999 _ _ _ hS hp]
  simp only [Program.fieldsOf, Try.underlying31]
  have e : ([x.a, x.b, x.c] == [y.a, y.b, y.c]) = decide (x.a = y.a ∧ x.b = y.b ∧ x.c = y.c) := by rw [Bool.eq_iff_iff]; simp
  rw [e] at hA
  have hA' : ∀ w, (Op.equalIn 9999 22 (.agg #[.int .i64 x.a, .int .i64 x.b, .int .i64 x.c]) (.agg #[.int .i64 y.a, .int .i64 y.b, .int .i64 y.c])).run Try.prog w = .ok (decide (x.a = y.a ∧ x.b = y.b ∧ x.c = y.c)) w := hA
  go_simp
  by_cases h : x = y
  · subst h; simp
  · rw [decide_eq_false h]
    by_cases h1 : x.s = y.s
    · by_cases h2 : x.a = y.a ∧ x.b = y.b ∧ x.c = y.c
      · by_cases h3 : x.f = y.f
        · exact absurd (Cn.ext' h1 h2.1 h2.2.1 h2.2.2 h3) h
        · simp [h1, h2, h3]
      · simp [h1, h2]
    · simp [h1]
set_option maxRecDepth 100000 in
theorem neq_cn (x y : Cn) (w : World) : (binOp .neq 24 (cnV x) (cnV y)).run Try.prog w = .ok (.bool (!decide (x = y))) w := by
  have u3 := Try.underlying3
  have a3 := Try.isAgg3
  have z3 := Try.sizeOf3
  have u4 := Try.underlying4
  have a4 := Try.isAgg4
  have z4 := Try.sizeOf4
  have a5 := Try.isAgg22
  have z5 := Try.sizeOf22
  have hA := fun w => Arr.run_equal_ints (P := Try.prog) Try.underlying22 Try.underlying3 (fun w => by kernel_rfl) 9997 [x.a, x.b, x.c] [y.a, y.b, y.c] rfl rfl w
  have hS : Try.prog.underlying 24 = some (.struct (Try.prog.fieldsOf 24)) := by kernel_rfl
  have hp : Try.prog.stoodInHeld 24 = false := by kernel_rfl
  rw [run_neq_struct, show (10000 : Nat) = 9999 + 1 from rfl, run_equalIn_agg w 9999 _ _ _ hS hp]
  simp only [Program.fieldsOf, Try.underlying24]
  have e : ([x.a, x.b, x.c] == [y.a, y.b, y.c]) = decide (x.a = y.a ∧ x.b = y.b ∧ x.c = y.c) := by rw [Bool.eq_iff_iff]; simp
  rw [e] at hA
  have hA' : ∀ w, (Op.equalIn 9999 22 (.agg #[.int .i64 x.a, .int .i64 x.b, .int .i64 x.c]) (.agg #[.int .i64 y.a, .int .i64 y.b, .int .i64 y.c])).run Try.prog w = .ok (decide (x.a = y.a ∧ x.b = y.b ∧ x.c = y.c)) w := hA
  go_simp
  by_cases h : x = y
  · subst h; simp
  · rw [decide_eq_false h]
    by_cases h1 : x.s = y.s
    · by_cases h2 : x.a = y.a ∧ x.b = y.b ∧ x.c = y.c
      · by_cases h3 : x.f = y.f
        · exact absurd (Cn.ext' h1 h2.1 h2.2.1 h2.2.2 h3) h
        · simp [h1, h2, h3]
      · simp [h1, h2]
    · simp [h1]
set_option maxRecDepth 100000 in
theorem neq_rc (x y : Cn) (w : World) : (binOp .neq 31 (cnV x) (cnV y)).run Try.prog w = .ok (.bool (!decide (x = y))) w := by
  have u3 := Try.underlying3
  have a3 := Try.isAgg3
  have z3 := Try.sizeOf3
  have u4 := Try.underlying4
  have a4 := Try.isAgg4
  have z4 := Try.sizeOf4
  have a5 := Try.isAgg22
  have z5 := Try.sizeOf22
  have hA := fun w => Arr.run_equal_ints (P := Try.prog) Try.underlying22 Try.underlying3 (fun w => by kernel_rfl) 9997 [x.a, x.b, x.c] [y.a, y.b, y.c] rfl rfl w
  have hS : Try.prog.underlying 31 = some (.struct (Try.prog.fieldsOf 31)) := by kernel_rfl
  have hp : Try.prog.stoodInHeld 31 = false := by kernel_rfl
  rw [run_neq_struct, show (10000 : Nat) = 9999 + 1 from rfl, run_equalIn_agg w 9999 _ _ _ hS hp]
  simp only [Program.fieldsOf, Try.underlying31]
  have e : ([x.a, x.b, x.c] == [y.a, y.b, y.c]) = decide (x.a = y.a ∧ x.b = y.b ∧ x.c = y.c) := by rw [Bool.eq_iff_iff]; simp
  rw [e] at hA
  have hA' : ∀ w, (Op.equalIn 9999 22 (.agg #[.int .i64 x.a, .int .i64 x.b, .int .i64 x.c]) (.agg #[.int .i64 y.a, .int .i64 y.b, .int .i64 y.c])).run Try.prog w = .ok (decide (x.a = y.a ∧ x.b = y.b ∧ x.c = y.c)) w := hA
  go_simp
  by_cases h : x = y
  · subst h; simp
  · rw [decide_eq_false h]
    by_cases h1 : x.s = y.s
    · by_cases h2 : x.a = y.a ∧ x.b = y.b ∧ x.c = y.c
      · by_cases h3 : x.f = y.f
        · exact absurd (Cn.ext' h1 h2.1 h2.2.1 h2.2.2 h3) h
        · simp [h1, h2, h3]
      · simp [h1, h2]
    · simp [h1]
end Go.Proofs.Ytbclpjfjkgehaaa.Ecn
