/-
  Plain mathematics of layer 1 (saturating arithmetic on numbers and times): what the functions of package sat return, and what holds of that.
-/
import Init
import Derived.Test.YtilkgjpgoogiiaaGreatRows
import Derived.WalkKit
import Derived.Lib.Hide
import Derived.WalkLawsBesides
import Derived.Outline
import Derived.LoopN
set_option maxRecDepth 100000
set_option maxHeartbeats 16000000
set_option linter.unusedVariables false
set_option linter.unusedSimpArgs false
namespace Go.Proofs.YtilkgjpgoogiiaaGreat.Sat
def num (n : Int) : Int := if n < 0 then 0 else if 9007199254740991 < n then 9007199254740991 else n
def isB (n : Int) : Bool := decide (0 ≤ n ∧ n ≤ 9007199254740991)
def istB (n : Int) : Bool := decide (n = -1 ∨ (0 ≤ n ∧ n ≤ 9007199254740991))
def tm (t : Int) : Int := if 0 ≤ t ∧ t ≤ 9007199254740991 then t else -1
def befB (a b : Int) : Bool := decide (a ≠ -1 ∧ (b = -1 ∨ a < b))
def add (a b : Int) : Int := num (num a + num b)
def sub (a b : Int) : Int := num (num a - num b)
def mul (a b : Int) : Int := num (num a * num b)
def earlier (a b : Int) : Int := if befB (tm b) (tm a) then tm b else tm a
def later (a b : Int) : Int := if befB (tm b) (tm a) then tm a else tm b
def mulq (a b c : Int) : Int := if num c = 0 ∨ 9007199254740991 < num a * num b / num c then 9007199254740991 else num a * num b / num c
def mulr (a b c : Int) : Int := if num c = 0 ∨ 9007199254740991 < num a * num b / num c then 0 else num a * num b % num c
theorem num_lo (n : Int) (h : n < 0) : num n = 0 := by simp [num, h]
theorem num_hi (n : Int) (h : 9007199254740991 < n) : num n = 9007199254740991 := by
  unfold num; rw [if_neg (by omega), if_pos h]
theorem num_id (n : Int) (h : 0 ≤ n) (h' : n ≤ 9007199254740991) : num n = n := by
  unfold num; rw [if_neg (by omega), if_neg (by omega)]
theorem num_top (n : Int) (h : 9007199254740991 ≤ n) : num n = 9007199254740991 := by
  unfold num; split <;> (try split) <;> omega
theorem num_bd (n : Int) : 0 ≤ num n ∧ num n ≤ 9007199254740991 := by
  unfold num; split <;> (try split) <;> omega
theorem num_num (n : Int) : num (num n) = num n := num_id _ (num_bd n).1 (num_bd n).2
theorem num_max (n : Int) : max 0 (min n 9007199254740991) = num n := by
  unfold num; split <;> (try split) <;> omega
theorem num_cases (n : Int) (h : 0 ≤ n) : (n ≤ 9007199254740991 ∧ num n = n) ∨ (9007199254740991 < n ∧ num n = 9007199254740991) := by
  by_cases hn : n ≤ 9007199254740991
  · exact .inl ⟨hn, num_id n h hn⟩
  · exact .inr ⟨by omega, num_hi n (by omega)⟩
theorem add_comm (a b : Int) : add a b = add b a := by unfold add; rw [Int.add_comm]
theorem mul_comm (a b : Int) : mul a b = mul b a := by unfold mul; rw [Int.mul_comm]
theorem add_assoc (a b c : Int) : add (add a b) c = add a (add b c) := by
  unfold add
  rw [num_num, num_num]
  have ha := num_bd a; have hb := num_bd b; have hc := num_bd c
  generalize num a = A at *; generalize num b = B at *; generalize num c = C at *
  rcases num_cases (A + B) (by omega) with ⟨h1, e1⟩ | ⟨h1, e1⟩ <;> rcases num_cases (B + C) (by omega) with ⟨h2, e2⟩ | ⟨h2, e2⟩ <;> rw [e1, e2]
  · rw [Int.add_assoc]
  · rw [num_top _ (by omega), num_top _ (by omega)]
  · rw [num_top _ (by omega), num_top _ (by omega)]
  · rw [num_top _ (by omega), num_top _ (by omega)]
theorem mul_le_l (x y : Int) (hx : 0 ≤ x) (hy : 1 ≤ y) : x ≤ x * y := by
  have := Int.mul_le_mul_of_nonneg_left hy hx
  omega
theorem mul_assoc (a b c : Int) : mul (mul a b) c = mul a (mul b c) := by
  unfold mul
  rw [num_num, num_num]
  have ha := num_bd a; have hb := num_bd b; have hc := num_bd c
  generalize num a = A at *; generalize num b = B at *; generalize num c = C at *
  have hab : 0 ≤ A * B := Int.mul_nonneg ha.1 hb.1
  have hbc : 0 ≤ B * C := Int.mul_nonneg hb.1 hc.1
  by_cases hA : A = 0
  · subst hA; simp [num]
  by_cases hC : C = 0
  · subst hC; simp [num]
  have eA := mul_le_l (B * C) A hbc (by omega)
  have eC := mul_le_l (A * B) C hab (by omega)
  have mA := mul_le_l 9007199254740991 A (by omega) (by omega)
  have mC := mul_le_l 9007199254740991 C (by omega) (by omega)
  have e : A * (B * C) = A * B * C := (Int.mul_assoc A B C).symm
  have e' : B * C * A = A * B * C := by rw [Int.mul_comm, e]
  rcases num_cases (A * B) hab with ⟨h1, e1⟩ | ⟨h1, e1⟩ <;> rcases num_cases (B * C) hbc with ⟨h2, e2⟩ | ⟨h2, e2⟩ <;> rw [e1, e2]
  · rw [e]
  · rw [Int.mul_comm A 9007199254740991, num_top _ mA, num_top (A * B * C) (by omega)]
  · rw [num_top _ mC, num_top (A * (B * C)) (by omega)]
  · rw [Int.mul_comm A 9007199254740991, num_top _ mC, num_top _ mA]
theorem mul_one (a : Int) : mul a 1 = num a := by
  unfold mul; rw [show num 1 = 1 from rfl, Int.mul_one, num_num]
theorem add_zero (a : Int) : add a 0 = num a := by
  unfold add; rw [show num 0 = 0 from rfl, Int.add_zero, num_num]
theorem prod_bd (a b : Int) : 0 ≤ num a * num b ∧ num a * num b ≤ 81129638414606663681390495662081 := by
  have ha := num_bd a
  have hb := num_bd b
  refine ⟨Int.mul_nonneg ha.1 hb.1, ?_⟩
  exact Int.mul_le_mul ha.2 hb.2 hb.1 (by omega)
theorem mulq_one (a b : Int) : mulq a b 1 = mul a b := by
  have h := prod_bd a b
  have e : num 1 = 1 := num_id 1 (by omega) (by omega)
  unfold mulq mul
  rw [e, Int.ediv_one]
  split
  · rw [num_hi _ (by omega)]
  · rw [num_id _ h.1 (by omega)]
theorem mulq_num (a b c : Int) (hc : 1 ≤ num c) : mulq a b c = num (num a * num b / num c) := by
  have h := Int.ediv_nonneg (prod_bd a b).1 (num_bd c).1
  unfold mulq
  split
  · rw [num_hi _ (by omega)]
  · rw [num_id _ h (by omega)]
/-! Times. -/
theorem tm_id (t : Int) (h : t = -1 ∨ (0 ≤ t ∧ t ≤ 9007199254740991)) : tm t = t := by
  unfold tm; split <;> omega
theorem earlier_le (x y : Int) (hx : x = -1 ∨ (0 ≤ x ∧ x ≤ 9007199254740991)) (hy : y = -1 ∨ (0 ≤ y ∧ y ≤ 9007199254740991)) (h : y = -1 ∨ (x ≠ -1 ∧ x ≤ y)) : earlier x y = x := by
  unfold earlier befB; rw [tm_id x hx, tm_id y hy]
  simp; omega
end Go.Proofs.YtilkgjpgoogiiaaGreat.Sat
namespace Go.Proofs.YtilkgjpgoogiiaaGreat.Sat
open Go.RowKit
theorem ret_int {k : IntKind} {a b : Int} (h : a = b) : Ending.returned (.int k a) = .returned (.int k b) := by rw [h]
theorem ret_bool {a b : Bool} (h : a = b) : Ending.returned (.bool a) = .returned (.bool b) := by rw [h]
theorem clamp_int (n : Int) (w : World) :
    Calls Tryz.prog 121 #[.int .i64 n] w fun e w' => e = .returned (.int .i64 (num n)) ∧ w = w' := by
  go_enter Tryz.func121, Tryz.ntmps121
  go_wp2
  all_goals
    go_ret
    exact ⟨ret_int (by first | rw [num_lo _ (by omega)] | rw [num_hi _ (by omega)] | rw [num_id _ (by omega) (by omega)]), rfl⟩
theorem clamp_u64 (n : Int) (w : World) :
    Calls Tryz.prog 199 #[.int .u64 n] w fun e w' => e = .returned (.int .u64 (num n)) ∧ w = w' := by
  go_enter Tryz.func199, Tryz.ntmps199
  go_wp2
  all_goals
    go_ret
    exact ⟨ret_int (by first | rw [num_lo _ (by omega)] | rw [num_hi _ (by omega)] | rw [num_id _ (by omega) (by omega)]), rfl⟩
theorem is_any (n : Int) (w : World) :
    Calls Tryz.prog 91 #[.int .i64 n] w fun e w' => e = .returned (.bool (isB n)) ∧ w = w' := by
  go_enter Tryz.func91, Tryz.ntmps91
  go_wp2_with (go_at_call 121; refine (clamp_int _ _).mono ?_; rintro e w' ⟨rfl, rfl⟩)
  go_ret
  refine ⟨ret_bool ?_, rfl⟩
  rw [Bool.eq_iff_iff]; simp only [isB, num, beq_iff_eq, decide_eq_true_eq]
  split <;> (try split) <;> omega
theorem isTime_any (n : Int) (w : World) :
    Calls Tryz.prog 182 #[.int .i64 n] w fun e w' => e = .returned (.bool (istB n)) ∧ w = w' := by
  go_enter Tryz.func182, Tryz.ntmps182
  go_wp2_with (go_at_call 91; refine (is_any _ _).mono ?_; rintro e w' ⟨rfl, rfl⟩)
  all_goals
    go_ret
    refine ⟨ret_bool ?_, rfl⟩
    rw [Bool.eq_iff_iff]; simp only [isB, istB, decide_eq_true_eq, Bool.true_eq, true_iff]
    simp_all <;> omega
theorem moment_any (n : Int) (w : World) :
    Calls Tryz.prog 148 #[.int .i64 n] w fun e w' => e = .returned (.int .i64 (tm n)) ∧ w = w' := by
  cases hb : istB n
  all_goals
    go_enter Tryz.func148, Tryz.ntmps148
    go_wp2_with (go_at_call 182; refine (isTime_any _ _).mono ?_; rintro e w' ⟨rfl, rfl⟩)
    go_ret
    refine ⟨ret_int ?_, rfl⟩
    simp only [istB, decide_eq_true_eq, decide_eq_false_iff_not] at hb
    unfold tm; split <;> omega
theorem before_any (a b : Int) (w : World) :
    Calls Tryz.prog 149 #[.int .i64 a, .int .i64 b] w fun e w' => e = .returned (.bool (befB a b)) ∧ w = w' := by
  go_enter Tryz.func149, Tryz.ntmps149
  go_wp2
  all_goals
    go_ret
    refine ⟨ret_bool ?_, rfl⟩
    rw [Bool.eq_iff_iff]; simp only [befB, decide_eq_true_eq]
    simp_all <;> omega
theorem earlier_any (a b : Int) (w : World) :
    Calls Tryz.prog 106 #[.int .i64 a, .int .i64 b] w fun e w' => e = .returned (.int .i64 (earlier a b)) ∧ w = w' := by
  cases hb : befB (tm b) (tm a)
  all_goals
    go_enter Tryz.func106, Tryz.ntmps106
    go_wp2_with (first | (go_at_call 148; refine (moment_any _ _).mono ?_; rintro e w' ⟨rfl, rfl⟩) | (go_at_call 149; refine (before_any _ _ _).mono ?_; rintro e w' ⟨rfl, rfl⟩))
    go_ret
    exact ⟨ret_int (by simp [earlier, hb]), rfl⟩
end Go.Proofs.YtilkgjpgoogiiaaGreat.Sat
/-
  Contracts of sat's sum (of two numbers), Add and Ends: what each returns, for every input; the world gets at most new blocks.
-/
namespace Go.Proofs.YtilkgjpgoogiiaaGreat.Sat
open Go.RowKit
def Kept (w w' : World) : Prop := Below w.heap.size w w'
theorem Kept.refl (w : World) : Kept w w := Below.refl _ _
theorem Kept.trans {a b c : World} (h : Kept a b) (k : Kept b c) : Kept a c := Below.trans h (Below.mono k h.size)
theorem Kept.alloc {a b : World} (h : Kept a b) (o : Obj) : Kept a (b.alloc o) := Below.alloc h h.size o
theorem Kept.drew {a b : World} (h : Kept a b) : Kept a b.drew := Below.drew h
theorem sum_two (x y : Int) (b : Nat) (w : World) (h0 : w.cell? ⟨b, 0, none⟩ = some (.int .i64 x)) (h1 : w.cell? ⟨b, 1, none⟩ = some (.int .i64 y)) :
    Calls Tryz.prog 180 #[.slice (some ⟨b, 0, none⟩) 2 2] w fun e w' => e = .returned (.int .i64 (add x y)) ∧ w = w' := by
  have hx := num_bd x
  have hy := num_bd y
  have hxx := num_bd (num x)
  go_enter Tryz.func180, Tryz.ntmps180
  go_wp2
  refine wp_loop_rounds 3 ?_
  rw [rounds_succ]
  go_wp2_with (go_at_call 121; refine (clamp_int _ _).mono ?_; rintro e w' ⟨rfl, rfl⟩)
  rw [rounds_succ]
  go_wp2_with (go_at_call 121; refine (clamp_int _ _).mono ?_; rintro e w' ⟨rfl, rfl⟩)
  rw [rounds_succ]
  go_wp2
  go_ret
  exact ⟨ret_int (by simp [add, num_num]), rfl⟩
theorem add_any (a b : Int) (w : World) :
    Calls Tryz.prog 145 #[.int .i64 a, .int .i64 b] w fun e w' => e = .returned (.int .i64 (add a b)) ∧ Kept w w' := by
  go_enter Tryz.func145, Tryz.ntmps145
  go_wp2_with (go_at_call 180; refine (sum_two a b _ _ ?_ ?_).mono ?_)
  · simp
  · simp
  · rintro e w' ⟨rfl, rfl⟩
    go_wp2
    go_ret
    exact ⟨rfl, (Kept.refl _).alloc _⟩
end Go.Proofs.YtilkgjpgoogiiaaGreat.Sat
