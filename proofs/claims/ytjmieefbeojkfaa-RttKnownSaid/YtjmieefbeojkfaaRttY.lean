/-
  Contracts of package rtt's functions: afterNext, Sample, New, Held, Greatest.
-/
import Derived.Test.YtjmieefbeojkfaaRttX
namespace Go.Proofs.Ytjmieefbeojkfaa.Rtt
open Go.RowKit RttM Wd
set_option linter.unusedVariables false
set_option linter.unusedSimpArgs false

/-- Three boxes that are laid one behind the other. -/
theorem three (w : World) (A B C : Array Value) (a b c : TypeId) : ∃ W, W = ((w.alloc (.cells A a)).alloc (.cells B b)).alloc (.cells C c) ∧ Blk W w.heap.size a A ∧ Blk W (w.heap.size + 1) b B ∧ Blk W (w.heap.size + 1 + 1) c C ∧ Kept w W := by
  refine ⟨_, rfl, ((Blk.new w a A).kept ((Kept.refl _).alloc _)).kept ((Kept.refl _).alloc _), ?_, ?_, ((Kept.refl w).alloc _ |>.alloc _).alloc _⟩
  · have := Blk.new (w.alloc (.cells A a)) b B
    rw [World.size_alloc] at this
    exact this.kept ((Kept.refl _).alloc _)
  · have := Blk.new ((w.alloc (.cells A a)).alloc (.cells B b)) c C
    rw [World.size_alloc, World.size_alloc] at this
    exact this
set_option maxRecDepth 100000 in
set_option maxHeartbeats 2000000 in
theorem next_any (r : Rt) (x y z : Int) (w : World) (hr : meas r) (hx : tm x) (hy : tm y) : Calls Try.prog 27 #[rtV r, smV x y z] w (Gives (rtV (next r x y)) w) := by
  obtain ⟨l, m, s, v, f⟩ := r
  obtain ⟨⟨hl, hl'⟩, ⟨hm, hm'⟩, ⟨hs, hs'⟩, ⟨hv, hv'⟩, hf, hml, hms⟩ := hr
  simp only at *
  obtain ⟨hx0, hx1⟩ := hx
  obtain ⟨hy0, hy1⟩ := hy
  have e1 := cnt_bd (m := min m x) (x := x) (y := y) (by omega) (by omega) hy0
  obtain ⟨c, hc⟩ : ∃ c, cnt (min m x) x y = c := ⟨_, rfl⟩
  rw [hc] at e1
  have e2 := far_bd (a := c) (b := s) (t := 9007199254740991) (by omega) hs (by omega) hs'
  obtain ⟨d, hd⟩ : ∃ d, far c s = d := ⟨_, rfl⟩
  rw [hd] at e2
  rw [next_of ⟨l, m, s, v, f⟩ x y c d hc hd]
  obtain ⟨n, hn⟩ : ∃ n, (if x < m then x else m) = n := ⟨_, rfl⟩
  have hnm : min m x = n := by rw [← hn]; split <;> omega
  rw [hnm] at hc e1 ⊢
  have hdist := distance_any c s
  rw [hd] at hdist
  have hdist := fun w => hdist w (by omega) (by omega)
  have q1 : (3 * v + d).tdiv 4 = (3 * v + d) / 4 := Int.tdiv_eq_ediv_of_nonneg (by omega)
  have q2 : (7 * s + c).tdiv 8 = (7 * s + c) / 8 := Int.tdiv_eq_ediv_of_nonneg (by omega)
  clear hd
  by_cases hg : n + y ≤ x
  · have hcx : x - y = c := by rw [← hc]; unfold cnt; rw [if_pos hg]
    clear hc
    go_enter Try.func27, Try.ntmps27
    go_wp2_with fail
    obtain ⟨W, hW, B1, B2, B3, KW⟩ := three w #[.int .i64 x, .int .i64 n, .int .i64 s, .int .i64 v, .int .i64 f] #[.int .i64 x, .int .i64 y, .int .i64 z] #[.int .i64 0, .int .i64 0, .int .i64 0, .int .i64 0, .int .i64 0] 50 53 23
    rw [← hW]
    clear hW
    have w3 : IntKind.i64.wrap (3 * v) = 3 * v := IntWalk.i64_in _ (by omega)
    have w4 : IntKind.i64.wrap (3 * v + d) = 3 * v + d := IntWalk.i64_in _ (by omega)
    have w5 : IntKind.i64.wrap ((3 * v + d) / 4) = (3 * v + d) / 4 := IntWalk.i64_in _ (by omega)
    have D1 : Blk W.drew w.heap.size _ _ := B1
    have c2 := D1.cell 2
    have c3 := D1.cell 3
    have f3 := D1.frozen 3
    have E1 : Hid (Blk (W.setCell ⟨w.heap.size, 3, none⟩ (.int .i64 ((3 * v + d) / 4))).drew w.heap.size _ _) := Lib.hid (B1.set_ 3 (.int .i64 ((3 * v + d) / 4)))
    have E3 : Hid (Blk (W.setCell ⟨w.heap.size, 3, none⟩ (.int .i64 ((3 * v + d) / 4))).drew (w.heap.size + 1 + 1) _ _) := Lib.hid (B3.far (p := ⟨w.heap.size, 3, none⟩) (by show w.heap.size + 1 + 1 ≠ w.heap.size; omega) (.int .i64 ((3 * v + d) / 4)))
    have KD : Hid (Kept w (W.setCell ⟨w.heap.size, 3, none⟩ (.int .i64 ((3 * v + d) / 4))).drew) := Lib.hid (Kept.setCell KW (p := ⟨w.heap.size, 3, none⟩) (Nat.le_refl _) _).drew
    clear B1 B2 B3 KW D1
    go_region_with (go_at_call 34; refine (hdist _).mono ?_; rintro e w' ⟨rfl, rfl⟩)
    all_goals
      clear c2 c3 f3
      generalize (W.setCell ⟨w.heap.size, 3, none⟩ (.int .i64 ((3 * v + d) / 4))).drew = V at *
      have D1 := E1.out
      have D3 := E3.out
      have c0 := D1.cell 0
      have c1 := D1.cell 1
      have c2 := D1.cell 2
      have c3 := D1.cell 3
      have c4 := D1.cell 4
      have f2 := D1.frozen 2
      have d0 := D3.cell 0
      have g0 := D3.frozen 0
      have d1 := D3.cell 1
      have g1 := D3.frozen 1
      have d2 := D3.cell 2
      have g2 := D3.frozen 2
      have d3 := D3.cell 3
      have g3 := D3.frozen 3
      have d4 := D3.cell 4
      have g4 := D3.frozen 4
      clear D1 D3
      go_wp2_with fail
      refine bodyPost_ret (v := rtV ⟨x, n, (7 * s + c) / 8, (3 * v + d) / 4, f⟩) ?_ rfl ⟨rfl, ?_⟩
      · simp [results, Try.f27, go_sem, d0, d1, d2, d3, d4]
      · have z0 : w.heap.size ≤ w.heap.size + 1 + 1 := by omega
        exact (((((KD.out.setCell (p := ⟨w.heap.size, 2, none⟩) (Nat.le_refl _) _).setCell (p := ⟨w.heap.size + 1 + 1, 0, none⟩) z0 _).setCell (p := ⟨w.heap.size + 1 + 1, 1, none⟩) z0 _).setCell (p := ⟨w.heap.size + 1 + 1, 2, none⟩) z0 _).setCell (p := ⟨w.heap.size + 1 + 1, 3, none⟩) z0 _).setCell (p := ⟨w.heap.size + 1 + 1, 4, none⟩) z0 _
  · have hcx : x = c := by rw [← hc]; unfold cnt; rw [if_neg hg]
    clear hc
    subst hcx
    go_enter Try.func27, Try.ntmps27
    go_wp2_with fail
    obtain ⟨W, hW, B1, B2, B3, KW⟩ := three w #[.int .i64 x, .int .i64 n, .int .i64 s, .int .i64 v, .int .i64 f] #[.int .i64 x, .int .i64 y, .int .i64 z] #[.int .i64 0, .int .i64 0, .int .i64 0, .int .i64 0, .int .i64 0] 50 53 23
    rw [← hW]
    clear hW
    have w3 : IntKind.i64.wrap (3 * v) = 3 * v := IntWalk.i64_in _ (by omega)
    have w4 : IntKind.i64.wrap (3 * v + d) = 3 * v + d := IntWalk.i64_in _ (by omega)
    have w5 : IntKind.i64.wrap ((3 * v + d) / 4) = (3 * v + d) / 4 := IntWalk.i64_in _ (by omega)
    have D1 : Blk W.drew w.heap.size _ _ := B1
    have c2 := D1.cell 2
    have c3 := D1.cell 3
    have f3 := D1.frozen 3
    have E1 : Hid (Blk (W.setCell ⟨w.heap.size, 3, none⟩ (.int .i64 ((3 * v + d) / 4))).drew w.heap.size _ _) := Lib.hid (B1.set_ 3 (.int .i64 ((3 * v + d) / 4)))
    have E3 : Hid (Blk (W.setCell ⟨w.heap.size, 3, none⟩ (.int .i64 ((3 * v + d) / 4))).drew (w.heap.size + 1 + 1) _ _) := Lib.hid (B3.far (p := ⟨w.heap.size, 3, none⟩) (by show w.heap.size + 1 + 1 ≠ w.heap.size; omega) (.int .i64 ((3 * v + d) / 4)))
    have KD : Hid (Kept w (W.setCell ⟨w.heap.size, 3, none⟩ (.int .i64 ((3 * v + d) / 4))).drew) := Lib.hid (Kept.setCell KW (p := ⟨w.heap.size, 3, none⟩) (Nat.le_refl _) _).drew
    clear B1 B2 B3 KW D1
    go_region_with (go_at_call 34; refine (hdist _).mono ?_; rintro e w' ⟨rfl, rfl⟩)
    all_goals
      clear c2 c3 f3
      generalize (W.setCell ⟨w.heap.size, 3, none⟩ (.int .i64 ((3 * v + d) / 4))).drew = V at *
      have D1 := E1.out
      have D3 := E3.out
      have c0 := D1.cell 0
      have c1 := D1.cell 1
      have c2 := D1.cell 2
      have c3 := D1.cell 3
      have c4 := D1.cell 4
      have f2 := D1.frozen 2
      have d0 := D3.cell 0
      have g0 := D3.frozen 0
      have d1 := D3.cell 1
      have g1 := D3.frozen 1
      have d2 := D3.cell 2
      have g2 := D3.frozen 2
      have d3 := D3.cell 3
      have g3 := D3.frozen 3
      have d4 := D3.cell 4
      have g4 := D3.frozen 4
      clear D1 D3
      go_wp2_with fail
      refine bodyPost_ret (v := rtV ⟨x, n, (7 * s + x) / 8, (3 * v + d) / 4, f⟩) ?_ rfl ⟨rfl, ?_⟩
      · simp [results, Try.f27, go_sem, d0, d1, d2, d3, d4]
      · have z0 : w.heap.size ≤ w.heap.size + 1 + 1 := by omega
        exact (((((KD.out.setCell (p := ⟨w.heap.size, 2, none⟩) (Nat.le_refl _) _).setCell (p := ⟨w.heap.size + 1 + 1, 0, none⟩) z0 _).setCell (p := ⟨w.heap.size + 1 + 1, 1, none⟩) z0 _).setCell (p := ⟨w.heap.size + 1 + 1, 2, none⟩) z0 _).setCell (p := ⟨w.heap.size + 1 + 1, 3, none⟩) z0 _).setCell (p := ⟨w.heap.size + 1 + 1, 4, none⟩) z0 _

end Go.Proofs.Ytjmieefbeojkfaa.Rtt
