/-
  Contracts of sat's sum (of two numbers), Add and Ends: what each returns, for every input; the world gets at most new blocks.
-/
import Derived.Test.YtfacacieegfopaaSatA
import Derived.LoopN
namespace Go.Proofs.Ytfacacieegfopaa.Sat
open Go.RowKit
set_option linter.unusedSimpArgs false
set_option linter.unusedVariables false

/-- Of what was there nothing has turned. -/
def Kept (w w' : World) : Prop := Below w.heap.size w w'
set_option maxRecDepth 100000 in
theorem Kept.refl (w : World) : Kept w w := Below.refl _ _
set_option maxRecDepth 100000 in
theorem Kept.trans {a b c : World} (h : Kept a b) (k : Kept b c) : Kept a c := Below.trans h (Below.mono k h.size)
set_option maxRecDepth 100000 in
theorem Kept.alloc {a b : World} (h : Kept a b) (o : Obj) : Kept a (b.alloc o) := Below.alloc h h.size o
set_option maxRecDepth 100000 in
theorem Kept.drew {a b : World} (h : Kept a b) : Kept a b.drew := Below.drew h

set_option maxRecDepth 100000 in
set_option maxHeartbeats 400000 in
theorem sum_two (x y : Int) (b : Nat) (w : World) (h0 : w.cell? ⟨b, 0, none⟩ = some (.int .i64 x)) (h1 : w.cell? ⟨b, 1, none⟩ = some (.int .i64 y)) :
    Calls Try.prog 38 #[.slice (some ⟨b, 0, none⟩) 2 2] w fun e w' => e = .returned (.int .i64 (add x y)) ∧ w = w' := by
  have hx := num_bd x
  have hy := num_bd y
  have hxx := num_bd (num x)
  go_enter Try.func38, Try.ntmps38
  go_wp2
  refine wp_loop_rounds 3 ?_
  rw [rounds_succ]
  go_wp2_with (go_at_call 42; refine (clamp_int _ _).mono ?_; rintro e w' ⟨rfl, rfl⟩)
  rw [rounds_succ]
  go_wp2_with (go_at_call 42; refine (clamp_int _ _).mono ?_; rintro e w' ⟨rfl, rfl⟩)
  rw [rounds_succ]
  go_wp2
  go_ret
  exact ⟨ret_int (by simp [add, num_num]), rfl⟩

set_option maxRecDepth 100000 in
set_option maxHeartbeats 400000 in
theorem add_any (a b : Int) (w : World) :
    Calls Try.prog 29 #[.int .i64 a, .int .i64 b] w fun e w' => e = .returned (.int .i64 (add a b)) ∧ Kept w w' := by
  go_enter Try.func29, Try.ntmps29
  go_wp2_with (go_at_call 38; refine (sum_two a b _ _ ?_ ?_).mono ?_)
  · simp
  · simp
  · rintro e w' ⟨rfl, rfl⟩
    go_wp2
    go_ret
    exact ⟨rfl, (Kept.refl _).alloc _⟩

end Go.Proofs.Ytfacacieegfopaa.Sat
