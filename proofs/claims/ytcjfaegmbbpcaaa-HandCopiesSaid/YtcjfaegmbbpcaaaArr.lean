/-
  Two arrays of integers are compared: they are equal just if their lists of numbers are.
-/
import Derived.Laws.StructEq
namespace Go.Proofs.Ytcjfaegmbbpcaaa.Arr
open Go
variable {P : Program}

/-- One place of an array of numbers. -/
theorem part_int {e : TypeId} {k : IntKind} (he : P.underlying e = some (.int k)) (xs : List Int) (i : Nat) (h : i < xs.length) (w : World) :
    (part e (xs.map (Value.int k)).toArray i).run P w = .ok (Value.int k (xs.getD i 0)) w := by
  simp [part, isAgg, run_underlying he, List.getD, h]

/-- Lists of one length are the same just if they are so at each place. -/
theorem same_places (xs ys : List Int) (n : Nat) (hx : xs.length = n) (hy : ys.length = n) :
    (xs == ys) = (List.range' 0 n 1).all (fun i => xs.getD i 0 == ys.getD i 0) := by
  rw [Bool.eq_iff_iff, beq_iff_eq, List.all_eq_true]
  constructor
  · rintro rfl i _; simp
  · intro h
    apply List.ext_getElem (hx.trans hy.symm)
    intro i h1 h2
    have := h i (by simp [List.mem_range'_1]; omega)
    simpa [List.getD, h1, h2] using this

theorem run_equal_ints {t e : TypeId} {n : Nat} {k : IntKind} (ht : P.underlying t = some (.array n e)) (he : P.underlying e = some (.int k)) (hsz : ∀ w, (sizeOf e).run P w = .ok 1 w)
    (d : Nat) (xs ys : List Int) (hx : xs.length = n) (hy : ys.length = n) (w : World) :
    (Op.equalIn (d + 2) t (.agg (xs.map (Value.int k)).toArray) (.agg (ys.map (Value.int k)).toArray)).run P w = .ok (xs == ys) w := by
  rw [same_places xs ys n hx hy]
  unfold Op.equalIn
  simp only [Sem.run_bind, run_underlying ht, Result.andThen_ok, hsz, Std.Legacy.Range.forIn_eq_forIn_range', Std.Legacy.Range.size, Nat.sub_zero, Nat.add_sub_cancel, Nat.div_one, Nat.mul_one]
  have inside : ∀ i, i ∈ List.range' 0 n 1 → i < n := by intro i hi; simp [List.mem_range'_1] at hi; exact hi
  revert inside
  generalize List.range' 0 n 1 = places
  intro inside
  induction places with
  | nil => simp
  | cons i rest more =>
    have hi := inside i (List.mem_cons_self ..)
    have tail := more (fun j hj => inside j (List.mem_cons_of_mem _ hj))
    simp only [List.forIn_cons, Sem.run_bind, part_int he xs i (by omega), part_int he ys i (by omega), run_equalIn_int w d e k k _ _ he, Result.andThen_ok, List.all_cons]
    by_cases same : xs.getD i 0 = ys.getD i 0
    · rw [show (xs.getD i 0 == ys.getD i 0) = true by simpa using same]
      simpa using tail
    · rw [show (xs.getD i 0 == ys.getD i 0) = false by simpa using same]
      simp

theorem run_eql_ints {t e : TypeId} {n : Nat} {k : IntKind} (ht : P.underlying t = some (.array n e)) (he : P.underlying e = some (.int k)) (hsz : ∀ w, (sizeOf e).run P w = .ok 1 w)
    (xs ys : List Int) (hx : xs.length = n) (hy : ys.length = n) (w : World) :
    (binOp .eql t (.agg (xs.map (Value.int k)).toArray) (.agg (ys.map (Value.int k)).toArray)).run P w = .ok (.bool (xs == ys)) w := by
  rw [run_eql_struct, run_equal_ints ht he hsz 9998 xs ys hx hy]; rfl

theorem run_neq_ints {t e : TypeId} {n : Nat} {k : IntKind} (ht : P.underlying t = some (.array n e)) (he : P.underlying e = some (.int k)) (hsz : ∀ w, (sizeOf e).run P w = .ok 1 w)
    (xs ys : List Int) (hx : xs.length = n) (hy : ys.length = n) (w : World) :
    (binOp .neq t (.agg (xs.map (Value.int k)).toArray) (.agg (ys.map (Value.int k)).toArray)).run P w = .ok (.bool (!(xs == ys))) w := by
  rw [run_neq_struct, run_equal_ints ht he hsz 9998 xs ys hx hy]; rfl

end Go.Proofs.Ytcjfaegmbbpcaaa.Arr
