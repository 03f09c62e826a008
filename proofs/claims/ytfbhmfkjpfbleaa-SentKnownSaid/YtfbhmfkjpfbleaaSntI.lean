/-
  Contracts of New and of the calls of a log, as they are told to a caller: what a log is (LogIs), and what each call does with it.
-/
import Derived.Test.YtfbhmfkjpfbleaaSntP
import Derived.Test.YtfbhmfkjpfbleaaSntX
import Derived.Test.YtfbhmfkjpfbleaaSntB
import Derived.Laws.MakeOwn
namespace Go.Proofs.Ytfbhmfkjpfbleaa.Snt
open Go.RowKit SntM Cd Wd
set_option linter.unusedVariables false
set_option linter.unusedSimpArgs false

theorem made_flat {α : Type} [Inhabited α] {C : Cod α} (x : α) (z : Array Value) (hz : z.toList = C.enc x) (n : Nat) : (madeCells z (n * C.size)).toList = flat C (List.replicate n x) := by
  have hs : z.size = C.size := by rw [← Array.length_toList, hz, C.len]
  apply List.ext_getElem?
  intro j
  have hp := C.pos
  by_cases hj : j < n * C.size
  · have hk : j / C.size < n := Nat.div_lt_of_lt_mul (by rw [Nat.mul_comm]; exact hj)
    have hr : j % C.size < C.size := Nat.mod_lt _ hp
    have e : j / C.size * C.size + j % C.size = j := by rw [Nat.mul_comm]; exact Nat.div_add_mod _ _
    have h1 := flat_at (C := C) (List.replicate n x) (j / C.size) (by rw [List.length_replicate]; exact hk) (j % C.size) hr
    rw [e] at h1
    have h2 : at_ (List.replicate n x) (j / C.size) = x := by rw [at_of (by rw [List.length_replicate]; exact hk)]; simp
    rw [h1, h2, ← hz]
    have h3 : (madeCells z (n * C.size)).toList[j]? = some z[j % z.size]! := by
      rw [List.getElem?_eq_getElem (by simp [madeCells, hj])]
      simp [madeCells]
    rw [h3, hs, List.getElem?_eq_getElem (by rw [Array.length_toList, hs]; exact hr)]
    rw [getElem!_pos z (j % C.size) (by rw [hs]; exact hr)]
    simp
  · rw [List.getElem?_eq_none (by simp [madeCells]; omega), List.getElem?_eq_none (by rw [flat_length, List.length_replicate]; omega)]

theorem make_row (n : Nat) (hn : n ≤ 256) (W : World) : (Instr.makeSlice 42 (.int .i64 (n : Int)) (.int .i64 (n : Int))).run Try.prog W = .ok (.slice (some ⟨W.heap.size, 0, none⟩) n n) (W.alloc (.cells (madeCells (pkA zero) (n * 6)) 31)) := by
  obtain ⟨i0, hi, hz0, hz1, hz2⟩ := info_parts info_pk
  have hr := run_make (P := Try.prog) W 42 31 i0 (.agg #[.int .i64 0, .int .i64 0, .int .i64 0, .bool false, .bool false, .bool false]) Try.underlying42 hi hz0 .i64 .i64 (n : Int) (n : Int) (by omega) (by omega) (by rw [hz2]; omega) (by omega)
  rw [hr, hz1]
  simp only [Int.toNat_natCast]
  rfl
theorem made_prow (n : Nat) (hn : n ≤ 256) (W : World) : PRow (W.alloc (.cells (madeCells (pkA zero) (n * 6)) 31)) (some ⟨W.heap.size, 0, none⟩) n n (List.replicate n zero) := by
  have h : (madeCells (pkA zero) (n * 6)).toList = flat pkC (List.replicate n zero) := made_flat (C := pkC) zero (pkA zero) rfl n
  refine Rw.mk' (by simp) (Blk.new _ _ _) (Nat.le_refl _) (by unfold maxLen; omega) ?_ ?_
  · rw [← Array.length_toList]
    have := congrArg List.length h
    rw [flat_length, List.length_replicate] at this
    exact this
  · rw [← h]
    apply List.take_of_length_le
    rw [h, flat_length, List.length_replicate]
    exact Nat.le_refl _

/-- What New answers: a log of its own. -/
def NewOk (room : Nat) (w : World) (e : Ending) (w' : World) : Prop := ∃ p g, e = .returned (.tuple #[.pointer (some ⟨p, 0, none⟩), .int .i64 0]) ∧ LogIs w' p g room (-1) [] ∧ Kept w w' ∧ w.heap.size ≤ p ∧ w.heap.size ≤ g
/-- A log of its own, or none. -/
def NewDoes (room : Int) (w : World) (e : Ending) (w' : World) : Prop :=
  if 1 ≤ room ∧ room ≤ 256 then NewOk room.toNat w e w'
  else e = .returned (.tuple #[.pointer none, .int .i64 2]) ∧ w' = w

set_option maxRecDepth 100000 in
theorem new_bad (room : Int) (w : World) (h : ¬ (1 ≤ room ∧ room ≤ 256)) : Calls Try.prog 9 #[.int .i64 room] w fun e w' => e = .returned (.tuple #[.pointer none, .int .i64 2]) ∧ w' = w := by
  by_cases h1 : room < 1
  · clear h
    go_enter Try.func9, Try.ntmps9
    go_wp2
    go_ret2
    exact ⟨rfl, rfl⟩
  · have h2 : 256 < room := by omega
    clear h
    go_enter Try.func9, Try.ntmps9
    go_wp2
    go_ret2
    exact ⟨rfl, rfl⟩

set_option maxHeartbeats 1000000 in
set_option maxRecDepth 100000 in
theorem new_good (room : Nat) (w : World) (h1 : 1 ≤ room) (h2 : room ≤ 256) : Calls Try.prog 9 #[.int .i64 room] w (NewOk room w) := by
  have hmk := make_row room h2 w
  have hrow := made_prow room h2 w
  have hk := (Kept.refl w).alloc (.cells (madeCells (pkA zero) (room * 6)) 31)
  have hz1 : ¬ ((room : Int) < 1) := by omega
  have hz2 : ¬ ((256 : Int) < (room : Int)) := by omega
  have hsz : Hid ((w.alloc (.cells (madeCells (pkA zero) (room * 6)) 31)).heap.size = w.heap.size + 1) := World.size_alloc _ _
  generalize w.alloc (.cells (madeCells (pkA zero) (room * 6)) 31) = w1 at *
  have HR := Lib.hid hrow
  have HK := Lib.hid hk
  clear hrow hk
  go_enter Try.func9, Try.ntmps9
  go_wp2_with fail
  go_ret2
  have hs := hsz.out
  have hB := Blk.new w1 63 #[.slice (some ⟨w.heap.size, 0, none⟩) room room, .int .i64 0, .int .i64 0, .int .i64 (-1), .int .i64 0, .int .i64 0, .int .i64 0]
  refine ⟨w1.heap.size, w.heap.size, rfl, ⟨room, 0, _, [], ⟨hB, HR.out.kept ((Kept.refl _).alloc _), Ring.nil _ _ _, by omega, Ok.nil ⟨h1, h2⟩ (by unfold M; omega)⟩, rfl⟩, HK.out.alloc _, by omega, Nat.le_refl _⟩

theorem new_any (room : Int) (w : World) : Calls Try.prog 9 #[.int .i64 room] w (NewDoes room w) := by
  by_cases h : 1 ≤ room ∧ room ≤ 256
  · have h1 := new_good room.toNat w (by omega) (by omega)
    rw [show ((room.toNat : Nat) : Int) = room by omega] at h1
    exact h1.mono fun e w' k => by unfold NewDoes; rw [if_pos h]; exact k
  · exact (new_bad room w h).mono fun e w' k => by unfold NewDoes; rw [if_neg h]; exact k

/-! The calls, of a log as it is told. -/
section
variable {w : World} {p g room : Nat} {last : Int} {l : List Pk}
theorem put_is (h : LogIs w p g room last l) (q : Pk) : Calls Try.prog 12 #[.pointer (some ⟨p, 0, none⟩), pkV q] w (PutDoes w p g room last l q) := by
  obtain ⟨c, s, X, es, h, rfl⟩ := h
  exact put_at h q
theorem get_is (h : LogIs w p g room last l) (n : Int) : Calls Try.prog 25 #[.pointer (some ⟨p, 0, none⟩), .int .i64 n] w (GPk (getP l n) (getB l n) w) := by
  obtain ⟨c, s, X, es, h, rfl⟩ := h
  exact get_at h n
theorem oldest_is (h : LogIs w p g room last l) : Calls Try.prog 32 #[.pointer (some ⟨p, 0, none⟩)] w (GPk (at_ l 0) (decide (0 < l.length)) w) := by
  obtain ⟨c, s, X, es, h, rfl⟩ := h
  exact oldest_at h
/-- What Drop answers, and leaves. -/
def DropDoes (w : World) (p g room : Nat) (last : Int) (l : List Pk) (n : Int) (e : Ending) (w' : World) : Prop :=
  e = .returned (.tuple #[pkV (getP l n), .bool (getB l n)]) ∧ LogIs w' p g room last (dropL l n) ∧ Turned p g w w'
theorem drop_is (h : LogIs w p g room last l) (n : Int) : Calls Try.prog 14 #[.pointer (some ⟨p, 0, none⟩), .int .i64 n] w (DropDoes w p g room last l n) := by
  obtain ⟨c, s, X, es, h, rfl⟩ := h
  exact drop_at h n
theorem clear_is (h : LogIs w p g room last l) : Calls Try.prog 18 #[.pointer (some ⟨p, 0, none⟩)] w (Unit_ fun w' => LogIs w' p g room last [] ∧ Turned p g w w') := by
  obtain ⟨c, s, X, es, h, rfl⟩ := h
  exact clear_at h
theorem between_is (h : LogIs w p g room last l) (lo hi : Int) : Calls Try.prog 22 #[.pointer (some ⟨p, 0, none⟩), .int .i64 lo, .int .i64 hi] w (GRow w (betw l lo hi)) := by
  obtain ⟨c, s, X, es, h, rfl⟩ := h
  exact between_at h lo hi
theorem all_is (h : LogIs w p g room last l) : Calls Try.prog 29 #[.pointer (some ⟨p, 0, none⟩)] w (GRow w l) := by
  obtain ⟨c, s, X, es, h, rfl⟩ := h
  exact all_at h
theorem len_is (h : LogIs w p g room last l) : Calls Try.prog 28 #[.pointer (some ⟨p, 0, none⟩)] w fun e w' => e = .returned (.int .i64 (l.length : Nat)) ∧ w = w' := by
  obtain ⟨c, s, X, es, h, rfl⟩ := h
  exact len_at h
theorem last_is (h : LogIs w p g room last l) : Calls Try.prog 30 #[.pointer (some ⟨p, 0, none⟩)] w fun e w' => e = .returned (.int .i64 last) ∧ w = w' := by
  obtain ⟨c, s, X, es, h, rfl⟩ := h
  exact last_at h
theorem flight_is (h : LogIs w p g room last l) : Calls Try.prog 26 #[.pointer (some ⟨p, 0, none⟩)] w fun e w' => e = .returned (.int .i64 (fly l)) ∧ w = w' := by
  obtain ⟨c, s, X, es, h, rfl⟩ := h
  exact flight_at h
theorem eliciting_is (h : LogIs w p g room last l) : Calls Try.prog 27 #[.pointer (some ⟨p, 0, none⟩)] w fun e w' => e = .returned (.int .i64 (eli l)) ∧ w = w' := by
  obtain ⟨c, s, X, es, h, rfl⟩ := h
  exact eliciting_at h
end

/-! one. -/
def one (n : Int) : Pk := ⟨n, 0, 100, true, true, false⟩
set_option maxRecDepth 100000 in
theorem one_any (n : Int) (w : World) : Calls Try.prog 31 #[.int .i64 n] w fun e w' => e = .returned (pkV (one n)) ∧ Kept w w' := by
  have hB := Blk.new w 31 (pkA (one n))
  have r0 := hB.cell 0
  have r1 := hB.cell 1
  have r2 := hB.cell 2
  have r3 := hB.cell 3
  have r4 := hB.cell 4
  have r5 := hB.cell 5
  clear hB
  go_enter Try.func31, Try.ntmps31
  go_wp2_with fail
  refine bodyPost_ret (v := pkV (one n)) ?_ rfl ⟨rfl, (Kept.refl w).alloc _⟩
  simp [results, Try.f31, go_sem, r0, r1, r2, r3, r4, r5, one]

end Go.Proofs.Ytfbhmfkjpfbleaa.Snt
