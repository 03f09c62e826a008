/-
  Contracts of sat's sum (of two numbers), Add and Ends: what each returns, for every input; the world gets at most new blocks.
-/
import Derived.Test.YtnafmfkchnjmfaaSatA
import Derived.LoopN
namespace Go.Proofs.Ytnafmfkchnjmfaa.Sat
open Go.RowKit
set_option linter.unusedSimpArgs false
set_option linter.unusedVariables false

/-- Of what was there nothing has turned. -/
def Kept (w w' : World) : Prop := Below w.heap.size w w'
theorem Kept.refl (w : World) : Kept w w := Below.refl _ _
theorem Kept.trans {a b c : World} (h : Kept a b) (k : Kept b c) : Kept a c := Below.trans h (Below.mono k h.size)
theorem Kept.alloc {a b : World} (h : Kept a b) (o : Obj) : Kept a (b.alloc o) := Below.alloc h h.size o
theorem Kept.drew {a b : World} (h : Kept a b) : Kept a b.drew := Below.drew h

set_option maxHeartbeats 400000 in
theorem sum_two (x y : Int) (b : Nat) (w : World) (h0 : w.cell? ⟨b, 0, none⟩ = some (.int .i64 x)) (h1 : w.cell? ⟨b, 1, none⟩ = some (.int .i64 y)) :
    Calls Try.prog 38 #[.slice (some ⟨b, 0, none⟩) 2 2] w fun e w' => e = .returned (.int .i64 (add x y)) ∧ w = w' := by
  have hx := num_bd x
  have hy := num_bd y
  have hxx := num_bd (num x)
  go_enter Try.func38, Try.ntmps38
  go_wp2
  refine wp_loop_rounds 3 ?_
  rw [rounds_succ]
  go_wp2_with (go_at_call 37; refine (clamp_int _ _).mono ?_; rintro e w' ⟨rfl, rfl⟩)
  rw [rounds_succ]
  go_wp2_with (go_at_call 37; refine (clamp_int _ _).mono ?_; rintro e w' ⟨rfl, rfl⟩)
  rw [rounds_succ]
  go_wp2
  go_ret
  exact ⟨ret_int (by simp [add, num_num]), rfl⟩

set_option maxHeartbeats 400000 in
theorem add_any (a b : Int) (w : World) :
    Calls Try.prog 14 #[.int .i64 a, .int .i64 b] w fun e w' => e = .returned (.int .i64 (add a b)) ∧ Kept w w' := by
  go_enter Try.func14, Try.ntmps14
  go_wp2_with (go_at_call 38; refine (sum_two a b _ _ ?_ ?_).mono ?_)
  · simp
  · simp
  · rintro e w' ⟨rfl, rfl⟩
    go_wp2
    go_ret
    exact ⟨rfl, (Kept.refl _).alloc _⟩

set_option maxHeartbeats 400000 in
theorem ends_any (t d : Int) (w : World) :
    Calls Try.prog 33 #[.int .i64 t, .int .i64 d] w fun e w' => e = .returned (.int .i64 (ends t d)) ∧ Kept w w' := by
  cases hb : (tm t == -1)
  · go_enter Try.func33, Try.ntmps33
    go_wp2_with (first | (go_at_call 43; refine (moment_any _ _).mono ?_; rintro e w' ⟨rfl, rfl⟩) | (go_at_call 38; refine (sum_two t d _ _ ?_ ?_).mono ?_))
    · simp
    · simp
    · rintro e w' ⟨rfl, rfl⟩
      go_wp2
      go_ret
      exact ⟨ret_int (by simp only [beq_eq_false_iff_ne, ne_eq] at hb; rw [ends, if_neg hb]), (Kept.refl _).alloc _⟩
  · go_enter Try.func33, Try.ntmps33
    go_wp2_with (first | (go_at_call 43; refine (moment_any _ _).mono ?_; rintro e w' ⟨rfl, rfl⟩))
    go_ret
    exact ⟨ret_int (by simp only [beq_iff_eq] at hb; rw [ends, if_pos hb]), Kept.refl _⟩

end Go.Proofs.Ytnafmfkchnjmfaa.Sat
