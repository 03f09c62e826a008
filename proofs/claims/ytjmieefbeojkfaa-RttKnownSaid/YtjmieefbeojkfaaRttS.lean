/-
  Contracts of package rtt's functions: Sample, Greatest, Held.
-/
import Derived.Test.YtjmieefbeojkfaaRttZ
namespace Go.Proofs.Ytjmieefbeojkfaa.Rtt
open Go.RowKit RttM Wd
set_option linter.unusedVariables false
set_option linter.unusedSimpArgs false

set_option maxRecDepth 100000 in
theorem sample_new (r : Rt) (x y z : Int) (w : World) (h1 : isNew r) (tx : tm x) (ty : tm y) (tz : tm z) :
    Calls Try.prog 13 #[rtV r, .int .i64 x, .int .i64 y, .int .i64 z] w (Gives (.tuple #[rtV (first x z), .int .i64 0]) w) := by
  have c1 := check_any r
  rw [chk_new h1] at c1
  have hx := Lib.hid (decide_eq_true tx)
  have hy := Lib.hid (decide_eq_true ty)
  have hz := Lib.hid (decide_eq_true tz)
  have c2 := isNew_any r
  rw [decide_eq_true h1] at c2
  have c3 := fun w => first_any r x y z w tx
  go_enter Try.func13, Try.ntmps13
  go_wp2_with fail
  obtain ⟨W, hW, A1, A2, KW⟩ := two w #[.int .i64 r.l, .int .i64 r.m, .int .i64 r.s, .int .i64 r.v, .int .i64 r.f] #[.int .i64 0, .int .i64 0, .int .i64 0, .int .i64 0, .int .i64 0] 23 23
  rw [← hW]
  clear hW
  refine (c1 _).mono ?_
  rintro e w1 ⟨rfl, K1⟩
  have B1 := Lib.hid (A1.kept K1)
  have B2 := Lib.hid (A2.kept K1)
  have KB := Lib.hid (KW.trans K1)
  clear A1 A2 KW K1
  have p0 := B1.out.cell 0
  have p1 := B1.out.cell 1
  have p2 := B1.out.cell 2
  have p3 := B1.out.cell 3
  have p4 := B1.out.cell 4
  go_wp2_with (go_at_call 26; (first | with_reducible refine (isTime_is hx _).mono ?_ | with_reducible refine (isTime_is hy _).mono ?_ | with_reducible refine (isTime_is hz _).mono ?_); rintro e w' ⟨rfl, rfl⟩)
  refine (c2 _).mono ?_
  rintro e w2 ⟨rfl, K2⟩
  have B3 := Lib.hid (B1.out.kept K2)
  have B4 := Lib.hid (B2.out.kept K2)
  have KC := Lib.hid (KB.out.trans K2)
  clear B1 B2 KB K2 p0 p1 p2 p3 p4
  have p0 := B3.out.cell 0
  have p1 := B3.out.cell 1
  have p2 := B3.out.cell 2
  have p3 := B3.out.cell 3
  have p4 := B3.out.cell 4
  go_wp2_with fail
  refine (c3 _).mono ?_
  rintro e w3 ⟨rfl, K3⟩
  have B5 := Lib.hid (B4.out.kept K3)
  have KD := Lib.hid (KC.out.trans K3)
  clear B3 B4 KC K3
  have d0 := B5.out.cell 0
  have g0 := B5.out.frozen 0
  have d1 := B5.out.cell 1
  have g1 := B5.out.frozen 1
  have d2 := B5.out.cell 2
  have g2 := B5.out.frozen 2
  have d3 := B5.out.cell 3
  have g3 := B5.out.frozen 3
  have d4 := B5.out.cell 4
  have g4 := B5.out.frozen 4
  go_wp2_with fail
  have z0 : w.heap.size ≤ w.heap.size + 1 := by omega
  refine bodyPost_ret (v := .tuple #[rtV (first x z), .int .i64 0]) ?_ rfl ⟨rfl, ?_⟩
  · simp [results, Try.f13, go_sem, d0, d1, d2, d3, d4]
  · exact (((((KD.out.setCell (p := ⟨w.heap.size + 1, 0, none⟩) z0 _).setCell (p := ⟨w.heap.size + 1, 1, none⟩) z0 _).setCell (p := ⟨w.heap.size + 1, 2, none⟩) z0 _).setCell (p := ⟨w.heap.size + 1, 3, none⟩) z0 _).setCell (p := ⟨w.heap.size + 1, 4, none⟩) z0 _)

set_option maxRecDepth 100000 in
theorem sample_meas (r : Rt) (x y z : Int) (w : World) (h1 : meas r) (tx : tm x) (ty : tm y) (tz : tm z) :
    Calls Try.prog 13 #[rtV r, .int .i64 x, .int .i64 y, .int .i64 z] w (Gives (.tuple #[rtV (next r x y), .int .i64 0]) w) := by
  have c1 := check_any r
  rw [chk_meas h1] at c1
  have hx := Lib.hid (decide_eq_true tx)
  have hy := Lib.hid (decide_eq_true ty)
  have hz := Lib.hid (decide_eq_true tz)
  have c2 := isNew_any r
  rw [decide_eq_false (fun h => not_both h h1)] at c2
  have c3 := fun w => next_any r x y z w h1 tx ty
  go_enter Try.func13, Try.ntmps13
  go_wp2_with fail
  obtain ⟨W, hW, A1, A2, KW⟩ := two w #[.int .i64 r.l, .int .i64 r.m, .int .i64 r.s, .int .i64 r.v, .int .i64 r.f] #[.int .i64 0, .int .i64 0, .int .i64 0, .int .i64 0, .int .i64 0] 23 23
  rw [← hW]
  clear hW
  refine (c1 _).mono ?_
  rintro e w1 ⟨rfl, K1⟩
  have B1 := Lib.hid (A1.kept K1)
  have B2 := Lib.hid (A2.kept K1)
  have KB := Lib.hid (KW.trans K1)
  clear A1 A2 KW K1
  have p0 := B1.out.cell 0
  have p1 := B1.out.cell 1
  have p2 := B1.out.cell 2
  have p3 := B1.out.cell 3
  have p4 := B1.out.cell 4
  go_wp2_with (go_at_call 26; (first | with_reducible refine (isTime_is hx _).mono ?_ | with_reducible refine (isTime_is hy _).mono ?_ | with_reducible refine (isTime_is hz _).mono ?_); rintro e w' ⟨rfl, rfl⟩)
  refine (c2 _).mono ?_
  rintro e w2 ⟨rfl, K2⟩
  have B3 := Lib.hid (B1.out.kept K2)
  have B4 := Lib.hid (B2.out.kept K2)
  have KC := Lib.hid (KB.out.trans K2)
  clear B1 B2 KB K2 p0 p1 p2 p3 p4
  have p0 := B3.out.cell 0
  have p1 := B3.out.cell 1
  have p2 := B3.out.cell 2
  have p3 := B3.out.cell 3
  have p4 := B3.out.cell 4
  go_wp2_with fail
  refine (c3 _).mono ?_
  rintro e w3 ⟨rfl, K3⟩
  have B5 := Lib.hid (B4.out.kept K3)
  have KD := Lib.hid (KC.out.trans K3)
  clear B3 B4 KC K3
  have d0 := B5.out.cell 0
  have g0 := B5.out.frozen 0
  have d1 := B5.out.cell 1
  have g1 := B5.out.frozen 1
  have d2 := B5.out.cell 2
  have g2 := B5.out.frozen 2
  have d3 := B5.out.cell 3
  have g3 := B5.out.frozen 3
  have d4 := B5.out.cell 4
  have g4 := B5.out.frozen 4
  go_wp2_with fail
  have z0 : w.heap.size ≤ w.heap.size + 1 := by omega
  refine bodyPost_ret (v := .tuple #[rtV (next r x y), .int .i64 0]) ?_ rfl ⟨rfl, ?_⟩
  · simp [results, Try.f13, go_sem, d0, d1, d2, d3, d4]
  · exact (((((KD.out.setCell (p := ⟨w.heap.size + 1, 0, none⟩) z0 _).setCell (p := ⟨w.heap.size + 1, 1, none⟩) z0 _).setCell (p := ⟨w.heap.size + 1, 2, none⟩) z0 _).setCell (p := ⟨w.heap.size + 1, 3, none⟩) z0 _).setCell (p := ⟨w.heap.size + 1, 4, none⟩) z0 _)

theorem sample_any (r : Rt) (x y z : Int) (w : World) : Calls Try.prog 13 #[rtV r, .int .i64 x, .int .i64 y, .int .i64 z] w (Gives (.tuple #[rtV (sampR r x y z), .int .i64 (sampE r x y z)]) w) := by
  by_cases h : chk r = 0
  · by_cases ht : tm x ∧ tm y ∧ tm z
    · obtain ⟨hx, hy, hz⟩ := ht
      obtain ⟨e1, e2⟩ := samp_ok h hx hy hz
      rw [e1, e2]
      rcases ok_cases h with h1 | h1
      · rw [after_new h1]; exact sample_new r x y z w h1 hx hy hz
      · rw [after_meas h1]; exact sample_meas r x y z w h1 hx hy hz
    · obtain ⟨e1, e2⟩ := samp_range h ht
      rw [e1, e2]
      refine sample_range r x y z w h (Lib.hid rfl) (Lib.hid rfl) (Lib.hid rfl) ?_
      rw [Bool.eq_false_iff]
      intro h'
      rw [Bool.and_eq_true, Bool.and_eq_true, decide_eq_true_iff, decide_eq_true_iff, decide_eq_true_iff] at h'
      exact ht h'
  · have h1 : ¬ isNew r := fun h1 => h (chk_new h1)
    have h2 : ¬ meas r := fun h2 => h (chk_meas h2)
    obtain ⟨e1, e2⟩ := samp_bad (x := x) (y := y) (z := z) h1 h2
    rw [e1, e2]
    exact sample_bad r x y z w h1 h2

theorem great_any (r : Rt) (w : World) : Calls Try.prog 17 #[rtV r] w (Gives (.int .i64 (great r)) w) := by
  obtain ⟨W, hW, A1, KW⟩ : ∃ W, W = w.alloc (.cells #[.int .i64 r.l, .int .i64 r.m, .int .i64 r.s, .int .i64 r.v, .int .i64 r.f] 23) ∧ Blk W w.heap.size 23 (rtA r) ∧ Kept w W := ⟨_, rfl, Blk.new _ _ _, (Kept.refl w).alloc _⟩
  have c1 := check_any r
  by_cases h : chk r = 0
  · have hg : great r = if r.s < r.l then r.l else r.s := if_pos h
    rw [h] at c1
    rw [hg]
    clear hg h
    obtain ⟨G, hG⟩ : ∃ G, (if r.s < r.l then r.l else r.s) = G := ⟨_, rfl⟩
    rw [hG]
    go_enter Try.func17, Try.ntmps17
    go_wp2_with fail
    rw [← hW]
    clear hW
    refine (c1 _).mono ?_
    rintro e w1 ⟨rfl, K1⟩
    have B1 := A1.kept K1
    have KB := KW.trans K1
    have p0 := B1.cell 0
    have p2 := B1.cell 2
    clear A1 KW K1 B1
    go_wp2_with fail
    go_ret
    exact ⟨rfl, KB⟩
  · have h0 : chk r = 2 := by
      apply chk_none
      · intro h1; exact h (chk_new h1)
      · intro h1; exact h (chk_meas h1)
    have hg : great r = 0 := if_neg h
    rw [h0] at c1
    rw [hg]
    clear hg h h0
    go_enter Try.func17, Try.ntmps17
    go_wp2_with fail
    rw [← hW]
    clear hW
    refine (c1 _).mono ?_
    rintro e w1 ⟨rfl, K1⟩
    have KB := KW.trans K1
    clear A1 KW K1
    go_wp2_with fail
    go_ret
    exact ⟨rfl, KB⟩

theorem mn_min (a b : Int) : min a b = if b < a then b else a := by omega
theorem held_any (d m : Int) (k : Bool) (w : World) : Calls Try.prog 20 #[.int .i64 d, .int .i64 m, .bool k] w (Same (.int .i64 (held d m k)) w) := by
  cases k with
  | true =>
    have hh : held d m true = if clip m < clip d then clip m else clip d := by unfold held; rw [if_pos rfl, mn_min]
    rw [hh]
    clear hh
    obtain ⟨G, hG⟩ : ∃ G, (if clip m < clip d then clip m else clip d) = G := ⟨_, rfl⟩
    rw [hG]
    go_enter Try.func20, Try.ntmps20
    go_wp2_with (go_at_call 32; refine (clamp_any _ _).mono ?_; rintro e w' ⟨rfl, rfl⟩)
    go_ret
    exact ⟨rfl, rfl⟩
  | false =>
    have hh : held d m false = clip d := rfl
    rw [hh]
    clear hh
    go_enter Try.func20, Try.ntmps20
    go_wp2_with (go_at_call 32; refine (clamp_any _ _).mono ?_; rintro e w' ⟨rfl, rfl⟩)
    go_ret
    exact ⟨rfl, rfl⟩
end Go.Proofs.Ytjmieefbeojkfaa.Rtt
