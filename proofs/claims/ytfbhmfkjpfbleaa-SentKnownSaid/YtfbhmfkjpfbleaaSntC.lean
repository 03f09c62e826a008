/-
  Contracts of count, enter and leave: the totals of a log.
-/
import Derived.Test.YtfbhmfkjpfbleaaSntW
namespace Go.Proofs.Ytfbhmfkjpfbleaa.Snt
open Go.RowKit SntM Cd Wd
set_option linter.unusedVariables false
set_option linter.unusedSimpArgs false

set_option maxHeartbeats 1000000 in
set_option maxRecDepth 100000 in
/-- count: what a packet is in the totals, once more, or once less. -/
theorem count_any (p g c room start used : Nat) (last pk fl el m : Int) (q : Pk) (w : World) (h : LogB w p g c room start used last pk fl el) (hm : m = 1 ∨ m = -1) (hq : 0 ≤ q.s ∧ q.s ≤ 65535)
    (h1 : -1000 ≤ pk ∧ pk ≤ 1000) (h2 : -100000000 ≤ fl ∧ fl ≤ 100000000) (h3 : -1000 ≤ el ∧ el ≤ 1000) :
    Calls Try.prog 57 #[.pointer (some ⟨p, 4, none⟩), pkV q, .int .i64 m] w
      (Unit_ fun w' => LogB w' p g c room start used last (pk + m) (fl + m * fly [q]) (el + m * eli [q]) ∧ But (fun k => k = p) w w') := by
  obtain ⟨n, t, s, e1, f, d⟩ := q
  have c4 := h.cell 4
  have c5 := h.cell 5
  have c6 := h.cell 6
  have f4 := h.frozen 4
  have f5 := h.frozen 5
  have f6 := h.frozen 6
  have hpl := h.lt
  have HB := Lib.hid h
  clear h
  have hm1 : -1 ≤ m ∧ m ≤ 1 := by omega
  have hms : IntKind.i64.wrap (m * s) = m * s := IntWalk.i64_in _ (by rcases hm with rfl | rfl <;> simp at hq ⊢ <;> omega)
  have hmb : -65535 ≤ m * s ∧ m * s ≤ 65535 := by rcases hm with rfl | rfl <;> simp at hq ⊢ <;> omega
  have kb := Lib.hid ((But.refl (fun k => k = p) w).alloc (.cells #[.int .i64 n, .int .i64 t, .int .i64 s, .bool e1, .bool f, .bool d] 31))
  have kb2 := Lib.hid (HB.out.kept ((Kept.refl w).alloc (.cells #[.int .i64 n, .int .i64 t, .int .i64 s, .bool e1, .bool f, .bool d] 31)))
  clear hm
  cases f with
  | false =>
    have hz1 : Hid (m * fly [⟨n, t, s, e1, false, d⟩] = 0) := by show _ = _; simp [fly]
    have hz2 : Hid (m * eli [⟨n, t, s, e1, false, d⟩] = 0) := by show _ = _; simp [eli]
    go_enter Try.func57, Try.ntmps57
    go_wp2_with fail
    refine bodyPost_ret (results_none rfl _ _ _) rfl ?_
    refine ⟨rfl, ?_, ((But.refl (fun k => k = p) w).setCell (p := ⟨p, 4, none⟩) rfl _).alloc _⟩
    rw [hz1.out, hz2.out, Int.add_zero, Int.add_zero]
    exact (HB.out.set_ 4 _).kept ((Kept.refl _).alloc _)
  | true =>
    have hz1 : Hid (m * fly [⟨n, t, s, e1, true, d⟩] = m * s) := by show _ = _; simp [fly]
    cases e1 with
    | false =>
      have hz2 : Hid (m * eli [⟨n, t, s, false, true, d⟩] = 0) := by show _ = _; simp [eli]
      go_enter Try.func57, Try.ntmps57
      go_wp2_with fail
      go_region
      all_goals
        go_wp2_with fail
        go_end0
        refine ⟨rfl, ?_, ?_⟩
        · rw [hz1.out, hz2.out, Int.add_zero]
          exact ((HB.out.set_ 4 _).set_ 5 _).kept (((Kept.refl _).drew).alloc _)
        · exact (((But.refl (fun k => k = p) w).setCell (p := ⟨p, 4, none⟩) rfl _).setCell (p := ⟨p, 5, none⟩) rfl _).drew.alloc _
    | true =>
      have hz2 : Hid (m * eli [⟨n, t, s, true, true, d⟩] = m) := by show _ = _; simp [eli]
      go_enter Try.func57, Try.ntmps57
      go_wp2_with fail
      go_region
      all_goals
        go_wp2_with fail
        go_end0
        refine ⟨rfl, ?_, ?_⟩
        · rw [hz1.out, hz2.out]
          exact (((HB.out.set_ 4 _).set_ 5 _).set_ 6 _).kept (((Kept.refl _).drew).alloc _)
        · exact ((((But.refl (fun k => k = p) w).setCell (p := ⟨p, 4, none⟩) rfl _).setCell (p := ⟨p, 5, none⟩) rfl _).setCell (p := ⟨p, 6, none⟩) rfl _).drew.alloc _

set_option maxRecDepth 100000 in
theorem enter_any (p g c room start used : Nat) (last pk fl el : Int) (q : Pk) (w : World) (h : LogB w p g c room start used last pk fl el) (hq : 0 ≤ q.s ∧ q.s ≤ 65535)
    (h1 : -1000 ≤ pk ∧ pk ≤ 1000) (h2 : -100000000 ≤ fl ∧ fl ≤ 100000000) (h3 : -1000 ≤ el ∧ el ≤ 1000) :
    Calls Try.prog 38 #[.pointer (some ⟨p, 4, none⟩), pkV q] w
      (Unit_ fun w' => LogB w' p g c room start used last (pk + 1) (fl + 1 * fly [q]) (el + 1 * eli [q]) ∧ But (fun k => k = p) w w') := by
  have hk := (Kept.refl w).alloc (.cells #[.int .i64 q.n, .int .i64 q.t, .int .i64 q.s, .bool q.e, .bool q.f, .bool q.c] 31)
  have hc := count_any p g c room start used last pk fl el 1 q _ (h.kept hk) (by first | exact .inl rfl | exact .inr rfl) hq h1 h2 h3
  have HK := Lib.hid hk
  have hpl := h.lt
  clear h hk
  obtain ⟨n, t, s, e1, f, d⟩ := q
  go_enter Try.func38, Try.ntmps38
  go_wp2_with fail
  refine hc.mono ?_
  rintro e w' ⟨rfl, hb, hk'⟩
  go_wp2_with fail
  go_end0
  exact ⟨rfl, hb, (HK.out.but (fun k => k = p)).trans hk' (fun i _ h => h)⟩

set_option maxRecDepth 100000 in
theorem leave_any (p g c room start used : Nat) (last pk fl el : Int) (q : Pk) (w : World) (h : LogB w p g c room start used last pk fl el) (hq : 0 ≤ q.s ∧ q.s ≤ 65535)
    (h1 : -1000 ≤ pk ∧ pk ≤ 1000) (h2 : -100000000 ≤ fl ∧ fl ≤ 100000000) (h3 : -1000 ≤ el ∧ el ≤ 1000) :
    Calls Try.prog 42 #[.pointer (some ⟨p, 4, none⟩), pkV q] w
      (Unit_ fun w' => LogB w' p g c room start used last (pk + (-1)) (fl + (-1) * fly [q]) (el + (-1) * eli [q]) ∧ But (fun k => k = p) w w') := by
  have hk := (Kept.refl w).alloc (.cells #[.int .i64 q.n, .int .i64 q.t, .int .i64 q.s, .bool q.e, .bool q.f, .bool q.c] 31)
  have hc := count_any p g c room start used last pk fl el (-1) q _ (h.kept hk) (by first | exact .inl rfl | exact .inr rfl) hq h1 h2 h3
  have HK := Lib.hid hk
  have hpl := h.lt
  clear h hk
  obtain ⟨n, t, s, e1, f, d⟩ := q
  go_enter Try.func42, Try.ntmps42
  go_wp2_with fail
  refine hc.mono ?_
  rintro e w' ⟨rfl, hb, hk'⟩
  go_wp2_with fail
  go_end0
  exact ⟨rfl, hb, (HK.out.but (fun k => k = p)).trans hk' (fun i _ h => h)⟩

end Go.Proofs.Ytfbhmfkjpfbleaa.Snt
