/-
  Two ranges are compared; contracts of slices.Equal at ranges and of the statements' own equal.
-/
import Derived.Test.YtganelhlpobdjaaDoorSpnW
import Derived.Laws.StructEq
import Derived.LoopTactic
namespace Go.Proofs.YtganelhlpobdjaaDoor.Spn
open Go.RowKit SpnM Wd
set_option linter.unusedVariables false
set_option linter.unusedSimpArgs false

set_option maxRecDepth 100000 in
theorem guard_range : Tryd.prog.eqGuardType Tryd.prog.depth 36 = false := by kernel_rfl
set_option maxRecDepth 100000 in
theorem neq_range (a b c d : Int) (w : World) : (binOp .neq 36 (.agg #[.int .i64 a, .int .i64 b]) (.agg #[.int .i64 c, .int .i64 d])).run Tryd.prog w = .ok (.bool (!(a == c && b == d))) w := by
  have u3 := Tryd.underlying3
  have a3 := Tryd.isAgg3
  have z3 := Tryd.sizeOf3
  have hS : Tryd.prog.underlying 36 = some (.struct (Tryd.prog.fieldsOf 36)) := by kernel_rfl
  have hp : Tryd.prog.stoodInHeld 36 = false := by kernel_rfl
  rw [run_neq_struct, show (10000 : Nat) = 9999 + 1 from rfl, run_equalIn_agg w 9999 _ _ _ hS hp]
  simp only [Program.fieldsOf, Tryd.underlying36]
  go_simp
  by_cases h1 : a = c <;> by_cases h2 : b = d <;> simp [h1, h2]
set_option maxRecDepth 100000 in
theorem eql_range (a b c d : Int) (w : World) : (binOp .eql 36 (.agg #[.int .i64 a, .int .i64 b]) (.agg #[.int .i64 c, .int .i64 d])).run Tryd.prog w = .ok (.bool (a == c && b == d)) w := by
  have u3 := Tryd.underlying3
  have a3 := Tryd.isAgg3
  have z3 := Tryd.sizeOf3
  have hS : Tryd.prog.underlying 36 = some (.struct (Tryd.prog.fieldsOf 36)) := by kernel_rfl
  have hp : Tryd.prog.stoodInHeld 36 = false := by kernel_rfl
  rw [run_eql_struct, show (10000 : Nat) = 9999 + 1 from rfl, run_equalIn_agg w 9999 _ _ _ hS hp]
  simp only [Program.fieldsOf, Tryd.underlying36]
  go_simp
  by_cases h1 : a = c <;> by_cases h2 : b = d <;> simp [h1, h2]

/-- Are two lists of ranges the same? -/
def same (l m : List R) : Bool := decide (l = m)
set_option maxRecDepth 100000 in
theorem same_self (l : List R) : same l l = true := decide_eq_true rfl
set_option maxRecDepth 100000 in
theorem same_no {l m : List R} (h : l ≠ m) : same l m = false := decide_eq_false h
set_option maxRecDepth 100000 in
theorem same_all {l m : List R} (h : l.length = m.length) (hk : ∀ i, i < l.length → at_ l i = at_ m i) : l = m := by
  apply List.ext_getElem h
  intro i h1 h2
  have := hk i h1
  rwa [at_of h1, at_of h2] at this

set_option maxHeartbeats 1000000 in
set_option maxRecDepth 100000 in
theorem sequal_any (A B : Option Addr) (n c n' d : Nat) (l m : List R) (w : World) (hl : Row w A n c l) (hm : Row w B n' d m) :
    Calls Tryd.prog 40 #[.slice A n c, .slice B n' d] w (GBool (same l m) w) := by
  have hcap := hl.cap
  have hcap' := hm.cap
  unfold maxLen at hcap hcap'
  by_cases hn : n = n'
  · subst hn
    have HL := Lib.hid hl
    have HM := Lib.hid hm
    clear hl hm
    have hg := guard_range
    have hq := neq_range
    have hz : (((n : Int)) == (n : Int)) = true := by simp
    have hz2 : ((n : Int) != (n : Int)) = false := by simp
    go_enter Tryd.func40, Tryd.ntmps40
    go_wp2_with fail
    go_loopw [13] (fun i wr => ∃ k : Nat, k ≤ n ∧ i = .int .i64 k ∧ Hid (Kept w wr) ∧ Hid (∀ j, j < k → at_ l j = at_ m j)) (fun i _ => n - (intOf i).toNat)
    case atStart => exact ⟨0, Nat.zero_le _, rfl, Kept.refl w, fun j hj => absurd hj (Nat.not_lt_zero _)⟩
    case round =>
      obtain ⟨k, hk, rfl, hkw, hall⟩ := hrel
      by_cases hlt : k < n
      · have l1 := HL.out.kept hkw.out
        have m1 := HM.out.kept hkw.out
        obtain ⟨g, rfl, hgl⟩ := l1.some_ (by omega)
        obtain ⟨g', rfl, hgl'⟩ := m1.some_ (by omega)
        have c1 := l1.lo hlt
        have c2 := l1.hi hlt
        have c3 := m1.lo hlt
        have c4 := m1.hi hlt
        have hkz : (k : Int) < (n : Int) := by omega
        have hkz0 : (0 : Int) ≤ (k : Int) := by omega
        have hw1 : IntKind.i64.wrap ((k : Int) + 1) = (k : Int) + 1 := IntWalk.i64_in _ (by omega)
        have hE : Hid (((at_ l k).1 == (at_ m k).1 && (at_ l k).2 == (at_ m k).2) = true → at_ l k = at_ m k) := fun h => by
          simp only [Bool.and_eq_true, beq_iff_eq] at h
          exact Prod.ext h.1 h.2
        have hN : Hid (((at_ l k).1 == (at_ m k).1 && (at_ l k).2 == (at_ m k).2) = false → l ≠ m) := fun h e => by rw [e] at h; simp at h
        clear l1 m1
        cases hb : ((at_ l k).1 == (at_ m k).1 && (at_ l k).2 == (at_ m k).2) with
        | false =>
          have hN2 := Lib.hid (hN.out hb)
          clear hE hN
          generalize (at_ l k).1 = x1 at *
          generalize (at_ l k).2 = x2 at *
          generalize (at_ m k).1 = y1 at *
          generalize (at_ m k).2 = y2 at *
          go_wp2_with fail
          go_quiet (fail)
          go_wp2
          go_ret
          exact ⟨ret_bool (same_no hN2.out).symm, hkw.out.drewN _⟩
        | true =>
          have hE2 := Lib.hid (hE.out hb)
          clear hE hN
          generalize (at_ l k).1 = x1 at *
          generalize (at_ l k).2 = x2 at *
          generalize (at_ m k).1 = y1 at *
          generalize (at_ m k).2 = y2 at *
          go_wp2_with fail
          go_quiet (fail)
          go_wp2
          go_roundw
          case rel => exact ⟨k + 1, by omega, by go_num, hkw.out.drewN _, fun j hj => by
            rcases Nat.lt_or_ge j k with h | h
            · exact hall.out j h
            · rw [show j = k by omega]; exact hE2.out⟩
          case measure => simp [intOf]; omega
      · obtain rfl : k = n := by omega
        have hs : Hid (same l m = true) := by
          have : l = m := same_all (HL.out.len.trans HM.out.len.symm) (fun i hi => hall.out i (by rw [HL.out.len] at hi; exact hi))
          show _ = _; rw [this]; exact same_self m
        go_wp2
        go_ret
        exact ⟨ret_bool hs.out.symm, hkw.out⟩
  · have hs : Hid (same l m = false) := same_no (fun e => hn (by rw [← hl.len, ← hm.len, e]))
    have hz : ((n : Int) != (n' : Int)) = true := by simp; omega
    have hz2 : ((n : Int) == (n' : Int)) = false := by simp; omega
    clear hl hm
    go_enter Tryd.func40, Tryd.ntmps40
    go_wp2
    go_ret
    exact ⟨ret_bool hs.out.symm, Kept.refl w⟩

end Go.Proofs.YtganelhlpobdjaaDoor.Spn
