/-
  Contract of the document's Sample.
-/
import Derived.Test.YtjmieefbeojkfaaRttT
namespace Go.Proofs.Ytjmieefbeojkfaa.Rtt
open Go.RowKit RttM Wd
set_option linter.unusedVariables false
set_option linter.unusedSimpArgs false

set_option maxRecDepth 100000 in
theorem rsample_meas (r : Rt) (x y z : Int) (w : World) (h1 : meas r) (tx : tm x) (ty : tm y) (tz : tm z) :
    Calls Try.prog 14 #[rtV r, .int .i64 x, .int .i64 y, .int .i64 z] w (Gives (.tuple #[rtV (next r x y), .int .i64 0]) w) := by
  have c1 := rcheck_any r
  rw [chk_meas h1] at c1
  have hx := Lib.hid (decide_eq_true tx)
  have hy := Lib.hid (decide_eq_true ty)
  have hz := Lib.hid (decide_eq_true tz)
  obtain ⟨l, m, s, v, f⟩ := r
  obtain ⟨⟨hl, hl'⟩, ⟨hm, hm'⟩, ⟨hs, hs'⟩, ⟨hv, hv'⟩, ⟨hf, hf'⟩, hml, hms⟩ := h1
  simp only at *
  obtain ⟨hx0, hx1⟩ := tx
  obtain ⟨hy0, hy1⟩ := ty
  have e1 := cnt_bd (m := min m x) (x := x) (y := y) (by omega) (by omega) hy0
  obtain ⟨c, hc⟩ : ∃ c, cnt (min m x) x y = c := ⟨_, rfl⟩
  rw [hc] at e1
  have e2 := far_bd (a := c) (b := s) (t := 9007199254740991) (by omega) hs (by omega) hs'
  obtain ⟨d, hd⟩ : ∃ d, far c s = d := ⟨_, rfl⟩
  rw [hd] at e2
  rw [next_of ⟨l, m, s, v, f⟩ x y c d hc hd]
  obtain ⟨n, hn⟩ : ∃ n, (if x < m then x else m) = n := ⟨_, rfl⟩
  have hnm : min m x = n := by rw [← hn]; split <;> omega
  rw [hnm] at hc e1 ⊢
  have hd2 : (if s - c < c - s then c - s else s - c) = d := by rw [← hd]; unfold far; (repeat' split) <;> omega
  have q1 : (3 * v + d).tdiv 4 = (3 * v + d) / 4 := Int.tdiv_eq_ediv_of_nonneg (by omega)
  have q2 : (7 * s + c).tdiv 8 = (7 * s + c) / 8 := Int.tdiv_eq_ediv_of_nonneg (by omega)
  have w3 : IntKind.i64.wrap (3 * v) = 3 * v := IntWalk.i64_in _ (by omega)
  have w4 : IntKind.i64.wrap (3 * v + d) = 3 * v + d := IntWalk.i64_in _ (by omega)
  have w5 : IntKind.i64.wrap ((3 * v + d) / 4) = (3 * v + d) / 4 := IntWalk.i64_in _ (by omega)
  have hfb : (f == -1) = false := by simp only [beq_eq_false_iff_ne]; omega
  clear hd
  by_cases hg : n + y ≤ x
  · have hcx : x - y = c := by rw [← hc]; unfold cnt; rw [if_pos hg]
    clear hc
    go_enter Try.func14, Try.ntmps14
    go_wp2_with fail
    obtain ⟨W, hW, A1, A2, KW⟩ := two w #[.int .i64 l, .int .i64 m, .int .i64 s, .int .i64 v, .int .i64 f] #[.int .i64 0, .int .i64 0, .int .i64 0, .int .i64 0, .int .i64 0] 23 23
    rw [← hW]
    clear hW
    refine (c1 _).mono ?_
    rintro e w1 ⟨rfl, K1⟩
    have B1 := Lib.hid (A1.kept K1)
    have B2 := Lib.hid (A2.kept K1)
    have KB := Lib.hid (KW.trans K1)
    clear A1 A2 KW K1
    have p0 := B1.out.cell 0
    have p1 := B1.out.cell 1
    have p2 := B1.out.cell 2
    have p3 := B1.out.cell 3
    have p4 := B1.out.cell 4
    have d0 := B2.out.cell 0
    have g0 := B2.out.frozen 0
    have f0 := B1.out.frozen 0
    have d1 := B2.out.cell 1
    have g1 := B2.out.frozen 1
    have f1 := B1.out.frozen 1
    have d2 := B2.out.cell 2
    have g2 := B2.out.frozen 2
    have f2 := B1.out.frozen 2
    have d3 := B2.out.cell 3
    have g3 := B2.out.frozen 3
    have f3 := B1.out.frozen 3
    have d4 := B2.out.cell 4
    have g4 := B2.out.frozen 4
    have f4 := B1.out.frozen 4
    go_wp2_with (go_at_call 30; (first | with_reducible refine (rtime_is hx _).mono ?_ | with_reducible refine (rtime_is hy _).mono ?_ | with_reducible refine (rtime_is hz _).mono ?_); rintro e w' ⟨rfl, rfl⟩)
    refine bodyPost_ret (v := .tuple #[rtV ⟨x, n, (7 * s + c) / 8, (3 * v + d) / 4, f⟩, .int .i64 0]) ?_ rfl ⟨rfl, ?_⟩
    · simp [results, Try.f14, go_sem, d0, d1, d2, d3, d4]
    · have y0 : w.heap.size ≤ w.heap.size := Nat.le_refl _
      have z0 : w.heap.size ≤ w.heap.size + 1 := by omega
      exact ((((((((KB.out.setCell (p := ⟨w.heap.size, 0, none⟩) y0 _).setCell (p := ⟨w.heap.size, 1, none⟩) y0 _).setCell (p := ⟨w.heap.size, 3, none⟩) y0 _).setCell (p := ⟨w.heap.size, 2, none⟩) y0 _).setCell (p := ⟨w.heap.size + 1, 0, none⟩) z0 _).setCell (p := ⟨w.heap.size + 1, 1, none⟩) z0 _).setCell (p := ⟨w.heap.size + 1, 2, none⟩) z0 _).setCell (p := ⟨w.heap.size + 1, 3, none⟩) z0 _).setCell (p := ⟨w.heap.size + 1, 4, none⟩) z0 _
  · have hcx : x = c := by rw [← hc]; unfold cnt; rw [if_neg hg]
    clear hc
    subst hcx
    go_enter Try.func14, Try.ntmps14
    go_wp2_with fail
    obtain ⟨W, hW, A1, A2, KW⟩ := two w #[.int .i64 l, .int .i64 m, .int .i64 s, .int .i64 v, .int .i64 f] #[.int .i64 0, .int .i64 0, .int .i64 0, .int .i64 0, .int .i64 0] 23 23
    rw [← hW]
    clear hW
    refine (c1 _).mono ?_
    rintro e w1 ⟨rfl, K1⟩
    have B1 := Lib.hid (A1.kept K1)
    have B2 := Lib.hid (A2.kept K1)
    have KB := Lib.hid (KW.trans K1)
    clear A1 A2 KW K1
    have p0 := B1.out.cell 0
    have p1 := B1.out.cell 1
    have p2 := B1.out.cell 2
    have p3 := B1.out.cell 3
    have p4 := B1.out.cell 4
    have d0 := B2.out.cell 0
    have g0 := B2.out.frozen 0
    have f0 := B1.out.frozen 0
    have d1 := B2.out.cell 1
    have g1 := B2.out.frozen 1
    have f1 := B1.out.frozen 1
    have d2 := B2.out.cell 2
    have g2 := B2.out.frozen 2
    have f2 := B1.out.frozen 2
    have d3 := B2.out.cell 3
    have g3 := B2.out.frozen 3
    have f3 := B1.out.frozen 3
    have d4 := B2.out.cell 4
    have g4 := B2.out.frozen 4
    have f4 := B1.out.frozen 4
    go_wp2_with (go_at_call 30; (first | with_reducible refine (rtime_is hx _).mono ?_ | with_reducible refine (rtime_is hy _).mono ?_ | with_reducible refine (rtime_is hz _).mono ?_); rintro e w' ⟨rfl, rfl⟩)
    refine bodyPost_ret (v := .tuple #[rtV ⟨x, n, (7 * s + x) / 8, (3 * v + d) / 4, f⟩, .int .i64 0]) ?_ rfl ⟨rfl, ?_⟩
    · simp [results, Try.f14, go_sem, d0, d1, d2, d3, d4]
    · have y0 : w.heap.size ≤ w.heap.size := Nat.le_refl _
      have z0 : w.heap.size ≤ w.heap.size + 1 := by omega
      exact ((((((((KB.out.setCell (p := ⟨w.heap.size, 0, none⟩) y0 _).setCell (p := ⟨w.heap.size, 1, none⟩) y0 _).setCell (p := ⟨w.heap.size, 3, none⟩) y0 _).setCell (p := ⟨w.heap.size, 2, none⟩) y0 _).setCell (p := ⟨w.heap.size + 1, 0, none⟩) z0 _).setCell (p := ⟨w.heap.size + 1, 1, none⟩) z0 _).setCell (p := ⟨w.heap.size + 1, 2, none⟩) z0 _).setCell (p := ⟨w.heap.size + 1, 3, none⟩) z0 _).setCell (p := ⟨w.heap.size + 1, 4, none⟩) z0 _


theorem rsample_any (r : Rt) (x y z : Int) (w : World) : Calls Try.prog 14 #[rtV r, .int .i64 x, .int .i64 y, .int .i64 z] w (Gives (.tuple #[rtV (sampR r x y z), .int .i64 (sampE r x y z)]) w) := by
  by_cases h : chk r = 0
  · by_cases ht : tm x ∧ tm y ∧ tm z
    · obtain ⟨hx, hy, hz⟩ := ht
      obtain ⟨e1, e2⟩ := samp_ok h hx hy hz
      rw [e1, e2]
      rcases ok_cases h with h1 | h1
      · rw [after_new h1]; exact rsample_new r x y z w h1 hx hy hz
      · rw [after_meas h1]; exact rsample_meas r x y z w h1 hx hy hz
    · obtain ⟨e1, e2⟩ := samp_range h ht
      rw [e1, e2]
      refine rsample_range r x y z w h (Lib.hid rfl) (Lib.hid rfl) (Lib.hid rfl) ?_
      rw [Bool.eq_false_iff]
      intro h'
      rw [Bool.and_eq_true, Bool.and_eq_true, decide_eq_true_iff, decide_eq_true_iff, decide_eq_true_iff] at h'
      exact ht h'
  · have h1 : ¬ isNew r := fun h1 => h (chk_new h1)
    have h2 : ¬ meas r := fun h2 => h (chk_meas h2)
    obtain ⟨e1, e2⟩ := samp_bad (x := x) (y := y) (z := z) h1 h2
    rw [e1, e2]
    exact rsample_bad r x y z w h1 h2

end Go.Proofs.Ytjmieefbeojkfaa.Rtt
