/-
  The document's own: Slow, New, Collapse, Bad.
-/
import Derived.Test.YtchnljebhbaghaaWinV
import Derived.Test.YtchnljebhbaghaaWinD
namespace Go.Proofs.Ytchnljebhbaghaa.Win
open Go.RowKit WinM Wd
set_option linter.unusedVariables false
set_option linter.unusedSimpArgs false

theorem cut2 (c : Int) (h : 0 ≤ c) : c.tdiv 2 = c / 2 := Int.tdiv_eq_ediv_of_nonneg h
/-- The box of a window that a call changes: nothing that was there has turned. -/
theorem kept_one {w W : World} (h : Kept w W) {b i : Nat} {v : Value} (hb : w.heap.size ≤ b) : Kept w (W.setCell ⟨b, i, none⟩ v) := h.setCell (p := ⟨b, i, none⟩) hb v

set_option maxRecDepth 100000 in
theorem rslow_any (x : Wn) (w : World) : Calls Try.prog 23 #[wnV x] w (Gives (.bool (slowB x)) w) := by
  obtain ⟨W, hW, B0, K0⟩ : ∃ W, W = w.alloc (.cells (wnA x) 23) ∧ Blk W w.heap.size 23 (wnA x) ∧ Kept w W := ⟨_, rfl, Blk.new _ _ _, (Kept.refl w).alloc _⟩
  have k1 := Lib.hid (rcheck_any x W)
  have BH := Lib.hid B0
  have KH := Lib.hid K0
  clear B0 K0
  have b0 := BH.out.cell 0
  have b1 := BH.out.cell 1
  have b2 := BH.out.cell 2
  have b3 := BH.out.cell 3
  have b4 := BH.out.cell 4
  have b5 := BH.out.cell 5
  obtain ⟨E, hE⟩ : ∃ E, slowB x = E := ⟨_, rfl⟩
  rw [hE]
  by_cases hx : Ok x
  · rw [chk_ok hx] at k1
    rw [slow_ok hx] at hE
    have HE := Lib.hid hE
    clear hx hE
    go_enter Try.func23, Try.ntmps23
    go_wp2_with fail
    rw [← hW]
    clear hW
    refine k1.out.mono ?_
    rintro e w1 ⟨rfl, K1⟩
    have B1 := Lib.hid (BH.out.kept K1)
    have K2 := Lib.hid (KH.out.trans K1)
    clear b0 b1 b2 b3 b4 b5 K1 BH KH
    have b0 := B1.out.cell 0
    have b1 := B1.out.cell 1
    have b2 := B1.out.cell 2
    have b3 := B1.out.cell 3
    have b4 := B1.out.cell 4
    have b5 := B1.out.cell 5
    go_wp2_with fail
    all_goals
      go_ret
      exact ⟨ret_bool (by rw [← HE.out, Bool.eq_iff_iff]; simp <;> omega), K2.out⟩
  · rw [chk_no hx] at k1
    rw [slow_no hx] at hE
    subst hE
    clear hx
    go_enter Try.func23, Try.ntmps23
    go_wp2_with fail
    rw [← hW]
    clear hW
    refine k1.out.mono ?_
    rintro e w1 ⟨rfl, K1⟩
    have K2 := Lib.hid (KH.out.trans K1)
    clear b0 b1 b2 b3 b4 b5 K1 BH KH
    go_wp2_with fail
    go_ret
    exact ⟨rfl, K2.out⟩

set_option maxRecDepth 100000 in
theorem rnew_any (d f m : Int) (w : World) : Calls Try.prog 19 #[.int .i64 d, .int .i64 f, .int .i64 m] w (Gives (.tuple #[wnV (newW d f m), .int .i64 (newE d f m)]) w) := by
  obtain ⟨W, hW, Z0, B0, K0⟩ : ∃ W, W = ((w.alloc (.cells zA 23)).alloc (.cells #[.int .i64 d, .int .i64 m, .int .i64 f, .int .i64 (-1), .int .i64 (-1), .int .i64 0] 23)) ∧ Blk W w.heap.size 23 zA ∧ Blk W (w.heap.size + 1) 23 #[.int .i64 d, .int .i64 m, .int .i64 f, .int .i64 (-1), .int .i64 (-1), .int .i64 0] ∧ Kept w W := by
    refine ⟨_, rfl, (Blk.new _ _ _).kept ((Kept.refl _).alloc _), ?_, ((Kept.refl w).alloc _).alloc _⟩
    have := Blk.new (w.alloc (.cells zA 23)) 23 #[.int .i64 d, .int .i64 m, .int .i64 f, .int .i64 (-1), .int .i64 (-1), .int .i64 0]
    rwa [World.size_alloc] at this
  have k1 : Hid (Calls Try.prog 21 #[.agg #[.int .i64 d, .int .i64 m, .int .i64 f, .int .i64 (-1), .int .i64 (-1), .int .i64 0]] W (Gives (.int .i64 (chk (first d f m))) W)) := Lib.hid (rcheck_any (first d f m) W)
  have BH := Lib.hid B0
  have ZH := Lib.hid Z0
  have KH := Lib.hid K0
  have b0 := BH.out.cell 0
  have b1 := BH.out.cell 1
  have b2 := BH.out.cell 2
  have b3 := BH.out.cell 3
  have b4 := BH.out.cell 4
  have b5 := BH.out.cell 5
  clear B0 Z0 K0
  unfold newW newE
  by_cases hx : Ok (first d f m)
  · rw [if_pos hx]
    rw [chk_ok hx] at k1 ⊢
    clear hx
    go_enter Try.func19, Try.ntmps19
    go_wp2_with fail
    rw [← hW]
    clear hW
    refine k1.out.mono ?_
    rintro e w1 ⟨rfl, K1⟩
    have B1 := Lib.hid (BH.out.kept K1)
    have Z1 := Lib.hid (ZH.out.kept K1)
    have K2 := Lib.hid (KH.out.trans K1)
    clear b0 b1 b2 b3 b4 b5 K1 BH ZH KH
    have b0 := B1.out.cell 0
    have b1 := B1.out.cell 1
    have b2 := B1.out.cell 2
    have b3 := B1.out.cell 3
    have b4 := B1.out.cell 4
    have b5 := B1.out.cell 5
    have d0 := Z1.out.cell 0
    have d1 := Z1.out.cell 1
    have d2 := Z1.out.cell 2
    have d3 := Z1.out.cell 3
    have d4 := Z1.out.cell 4
    have d5 := Z1.out.cell 5
    have df0 := Z1.out.frozen 0
    have df1 := Z1.out.frozen 1
    have df2 := Z1.out.frozen 2
    have df3 := Z1.out.frozen 3
    have df4 := Z1.out.frozen 4
    have df5 := Z1.out.frozen 5
    go_wp2_with fail
    refine bodyPost_ret (v := .tuple #[wnV (first d f m), .int .i64 0]) ?_ rfl ⟨rfl, ?_⟩
    · simp [results, Try.f19, go_sem, d0, d1, d2, d3, d4, d5, first]
    · exact kept_six K2.out (by omega) _ _ _ _ _ _
  · rw [if_neg hx]
    rw [chk_no hx] at k1 ⊢
    clear hx
    go_enter Try.func19, Try.ntmps19
    go_wp2_with fail
    rw [← hW]
    clear hW
    refine k1.out.mono ?_
    rintro e w1 ⟨rfl, K1⟩
    have Z1 := Lib.hid (ZH.out.kept K1)
    have K2 := Lib.hid (KH.out.trans K1)
    clear b0 b1 b2 b3 b4 b5 K1 BH ZH KH
    have d0 := Z1.out.cell 0
    have d1 := Z1.out.cell 1
    have d2 := Z1.out.cell 2
    have d3 := Z1.out.cell 3
    have d4 := Z1.out.cell 4
    have d5 := Z1.out.cell 5
    have df0 := Z1.out.frozen 0
    have df1 := Z1.out.frozen 1
    have df2 := Z1.out.frozen 2
    have df3 := Z1.out.frozen 3
    have df4 := Z1.out.frozen 4
    have df5 := Z1.out.frozen 5
    go_wp2_with fail
    refine bodyPost_ret (v := .tuple #[wnV zero, .int .i64 2]) ?_ rfl ⟨rfl, ?_⟩
    · simp [results, Try.f19, go_sem, d0, d1, d2, d3, d4, d5, zero]
    · exact kept_six K2.out (by omega) _ _ _ _ _ _

set_option maxRecDepth 100000 in
theorem rcollapse_any (x : Wn) (w : World) : Calls Try.prog 17 #[wnV x] w (Gives (.tuple #[wnV (colW x), .int .i64 (chk x)]) w) := by
  obtain ⟨W, hW, B0, Z0, K0⟩ := two_box w x
  have k1 := Lib.hid (rcheck_any x W)
  have BH := Lib.hid B0
  have ZH := Lib.hid Z0
  have KH := Lib.hid K0
  have b0 := BH.out.cell 0
  have b1 := BH.out.cell 1
  have b2 := BH.out.cell 2
  have b3 := BH.out.cell 3
  have b4 := BH.out.cell 4
  have b5 := BH.out.cell 5
  clear B0 Z0 K0
  by_cases hx : Ok x
  · have hm : IntKind.i64.wrap (2 * x.d) = 2 * x.d := by have h1 := hx.d0; have h2 := hx.d1; exact IntWalk.i64_in _ (by omega)
    rw [chk_ok hx] at k1 ⊢
    rw [(col_ok hx).1]
    clear hx
    go_enter Try.func17, Try.ntmps17
    go_wp2_with fail
    rw [← hW]
    clear hW
    refine k1.out.mono ?_
    rintro e w1 ⟨rfl, K1⟩
    have B1 := Lib.hid (BH.out.kept K1)
    have Z1 := Lib.hid (ZH.out.kept K1)
    have K2 := Lib.hid (KH.out.trans K1)
    clear b0 b1 b2 b3 b4 b5 K1 BH ZH KH
    have b0 := B1.out.cell 0
    have b1 := B1.out.cell 1
    have b2 := B1.out.cell 2
    have b3 := B1.out.cell 3
    have b4 := B1.out.cell 4
    have b5 := B1.out.cell 5
    have bf0 := B1.out.frozen 0
    have bf1 := B1.out.frozen 1
    have bf2 := B1.out.frozen 2
    have bf3 := B1.out.frozen 3
    have bf4 := B1.out.frozen 4
    have bf5 := B1.out.frozen 5
    have d0 := Z1.out.cell 0
    have d1 := Z1.out.cell 1
    have d2 := Z1.out.cell 2
    have d3 := Z1.out.cell 3
    have d4 := Z1.out.cell 4
    have d5 := Z1.out.cell 5
    have df0 := Z1.out.frozen 0
    have df1 := Z1.out.frozen 1
    have df2 := Z1.out.frozen 2
    have df3 := Z1.out.frozen 3
    have df4 := Z1.out.frozen 4
    have df5 := Z1.out.frozen 5
    go_wp2_with fail
    refine bodyPost_ret (v := .tuple #[wnV (low x), .int .i64 0]) ?_ rfl ⟨rfl, ?_⟩
    · simp [results, Try.f17, go_sem, d0, d1, d2, d3, d4, d5, low]
    · exact kept_six (kept_one (kept_one (kept_one K2.out (Nat.le_refl _)) (Nat.le_refl _)) (Nat.le_refl _)) (by omega) _ _ _ _ _ _
  · rw [chk_no hx] at k1 ⊢
    rw [show colW x = zero from if_neg hx]
    clear hx
    go_enter Try.func17, Try.ntmps17
    go_wp2_with fail
    rw [← hW]
    clear hW
    refine k1.out.mono ?_
    rintro e w1 ⟨rfl, K1⟩
    have Z1 := Lib.hid (ZH.out.kept K1)
    have K2 := Lib.hid (KH.out.trans K1)
    clear b0 b1 b2 b3 b4 b5 K1 BH ZH KH
    have d0 := Z1.out.cell 0
    have d1 := Z1.out.cell 1
    have d2 := Z1.out.cell 2
    have d3 := Z1.out.cell 3
    have d4 := Z1.out.cell 4
    have d5 := Z1.out.cell 5
    have df0 := Z1.out.frozen 0
    have df1 := Z1.out.frozen 1
    have df2 := Z1.out.frozen 2
    have df3 := Z1.out.frozen 3
    have df4 := Z1.out.frozen 4
    have df5 := Z1.out.frozen 5
    go_wp2_with fail
    refine bodyPost_ret (v := .tuple #[wnV zero, .int .i64 2]) ?_ rfl ⟨rfl, ?_⟩
    · simp [results, Try.f17, go_sem, d0, d1, d2, d3, d4, d5, zero]
    · exact kept_six K2.out (by omega) _ _ _ _ _ _

set_option maxRecDepth 100000 in
theorem rbad_any (x : Wn) (a n : Int) (w : World) : Calls Try.prog 15 #[wnV x, .int .i64 a, .int .i64 n] w (Gives (.tuple #[wnV (badW x a n), .int .i64 (badE x a n)]) w) := by
  obtain ⟨W, hW, B0, Z0, K0⟩ := two_box w x
  have k1 := Lib.hid (rcheck_any x W)
  have BH := Lib.hid B0
  have ZH := Lib.hid Z0
  have KH := Lib.hid K0
  have b0 := BH.out.cell 0
  have b1 := BH.out.cell 1
  have b2 := BH.out.cell 2
  have b3 := BH.out.cell 3
  have b4 := BH.out.cell 4
  have b5 := BH.out.cell 5
  clear B0 Z0 K0
  by_cases hx : Ok x
  · rw [chk_ok hx] at k1
    by_cases ht : tm a ∧ tm n
    · have c1 := Lib.hid (rtime_any a)
      have c2 := Lib.hid (rtime_any n)
      rw [decide_eq_true ht.1] at c1
      rw [decide_eq_true ht.2] at c2
      have k3 := Lib.hid (fun W => rbehind_any x a W)
      have hm : IntKind.i64.wrap (2 * x.d) = 2 * x.d := by have h1 := hx.d0; have h2 := hx.d1; exact IntWalk.i64_in _ (by omega)
      have hq : x.c.tdiv 2 = x.c / 2 := cut2 _ (by have h1 := hx.d0; have h2 := hx.c0; omega)
      have hw : IntKind.i64.wrap (x.c / 2) = x.c / 2 := by have h1 := hx.d0; have h2 := hx.c0; have h3 := hx.c1; have h4 := hx.m1; exact IntWalk.i64_in _ (by omega)
      have hX : max (x.c / 2) (2 * x.d) = if x.c / 2 < 2 * x.d then 2 * x.d else x.c / 2 := by omega
      rw [show badE x a n = 0 from badE_ok hx ht.1 ht.2]
      cases hb : behindB x a with
      | true =>
        rw [bad_near hx ht.1 ht.2 hb]
        rw [hb] at k3
        unfold down
        rw [hX]
        clear hb ht hx hX
        obtain ⟨G, hG⟩ : ∃ G, (if x.c / 2 < 2 * x.d then 2 * x.d else x.c / 2) = G := ⟨_, rfl⟩
        rw [hG]
        go_enter Try.func15, Try.ntmps15
        go_wp2_with fail
        rw [← hW]
        clear hW
        refine k1.out.mono ?_
        rintro e w1 ⟨rfl, K1⟩
        have B1 := Lib.hid (BH.out.kept K1)
        have Z1 := Lib.hid (ZH.out.kept K1)
        have K2 := Lib.hid (KH.out.trans K1)
        clear b0 b1 b2 b3 b4 b5 K1 BH ZH KH
        have b0 := B1.out.cell 0
        have b1 := B1.out.cell 1
        have b2 := B1.out.cell 2
        have b3 := B1.out.cell 3
        have b4 := B1.out.cell 4
        have b5 := B1.out.cell 5
        go_wp2_with (go_at_call 35; (first | with_reducible refine (c1.out _).mono ?_ | with_reducible refine (c2.out _).mono ?_); rintro e w' ⟨rfl, rfl⟩)
        refine (k3.out _).mono ?_
        rintro e w2 ⟨rfl, hk⟩
        have B2 := Lib.hid (B1.out.kept hk)
        have Z2 := Lib.hid (Z1.out.kept hk)
        have K3 := Lib.hid (K2.out.trans hk)
        clear b0 b1 b2 b3 b4 b5 hk B1 Z1 K2
        have b0 := B2.out.cell 0
        have b1 := B2.out.cell 1
        have b2 := B2.out.cell 2
        have b3 := B2.out.cell 3
        have b4 := B2.out.cell 4
        have b5 := B2.out.cell 5
        have bf0 := B2.out.frozen 0
        have bf1 := B2.out.frozen 1
        have bf2 := B2.out.frozen 2
        have bf3 := B2.out.frozen 3
        have bf4 := B2.out.frozen 4
        have bf5 := B2.out.frozen 5
        have d0 := Z2.out.cell 0
        have d1 := Z2.out.cell 1
        have d2 := Z2.out.cell 2
        have d3 := Z2.out.cell 3
        have d4 := Z2.out.cell 4
        have d5 := Z2.out.cell 5
        have df0 := Z2.out.frozen 0
        have df1 := Z2.out.frozen 1
        have df2 := Z2.out.frozen 2
        have df3 := Z2.out.frozen 3
        have df4 := Z2.out.frozen 4
        have df5 := Z2.out.frozen 5
        go_wp2_with fail
        refine bodyPost_ret (v := .tuple #[wnV ⟨x.d, x.m, G, x.c / 2, n, 0⟩, .int .i64 0]) ?_ rfl ⟨rfl, ?_⟩
        · simp [results, Try.f15, go_sem, d0, d1, d2, d3, d4, d5, down]
        · exact kept_six (kept_one (kept_one (kept_one (kept_one K3.out (Nat.le_refl _)) (Nat.le_refl _)) (Nat.le_refl _)) (Nat.le_refl _)) (by omega) _ _ _ _ _ _
      | false =>
        rw [bad_far hx ht.1 ht.2 hb]
        rw [hb] at k3
        clear hb ht hx hX hq hw
        go_enter Try.func15, Try.ntmps15
        go_wp2_with fail
        rw [← hW]
        clear hW
        refine k1.out.mono ?_
        rintro e w1 ⟨rfl, K1⟩
        have B1 := Lib.hid (BH.out.kept K1)
        have Z1 := Lib.hid (ZH.out.kept K1)
        have K2 := Lib.hid (KH.out.trans K1)
        clear b0 b1 b2 b3 b4 b5 K1 BH ZH KH
        have b0 := B1.out.cell 0
        have b1 := B1.out.cell 1
        have b2 := B1.out.cell 2
        have b3 := B1.out.cell 3
        have b4 := B1.out.cell 4
        have b5 := B1.out.cell 5
        go_wp2_with (go_at_call 35; (first | with_reducible refine (c1.out _).mono ?_ | with_reducible refine (c2.out _).mono ?_); rintro e w' ⟨rfl, rfl⟩)
        refine (k3.out _).mono ?_
        rintro e w2 ⟨rfl, hk⟩
        have B2 := Lib.hid (B1.out.kept hk)
        have Z2 := Lib.hid (Z1.out.kept hk)
        have K3 := Lib.hid (K2.out.trans hk)
        clear b0 b1 b2 b3 b4 b5 hk B1 Z1 K2
        have b0 := B2.out.cell 0
        have b1 := B2.out.cell 1
        have b2 := B2.out.cell 2
        have b3 := B2.out.cell 3
        have b4 := B2.out.cell 4
        have b5 := B2.out.cell 5
        have d0 := Z2.out.cell 0
        have d1 := Z2.out.cell 1
        have d2 := Z2.out.cell 2
        have d3 := Z2.out.cell 3
        have d4 := Z2.out.cell 4
        have d5 := Z2.out.cell 5
        have df0 := Z2.out.frozen 0
        have df1 := Z2.out.frozen 1
        have df2 := Z2.out.frozen 2
        have df3 := Z2.out.frozen 3
        have df4 := Z2.out.frozen 4
        have df5 := Z2.out.frozen 5
        go_wp2_with fail
        refine bodyPost_ret (v := .tuple #[wnV x, .int .i64 0]) ?_ rfl ⟨rfl, ?_⟩
        · simp [results, Try.f15, go_sem, d0, d1, d2, d3, d4, d5, wnV]
        · exact kept_six K3.out (by omega) _ _ _ _ _ _
    · have c1 := Lib.hid (rtime_any a)
      have c2 := Lib.hid (rtime_any n)
      rw [show badE x a n = 9 from badE_rng hx ht, show badW x a n = zero by unfold badW; rw [badE_rng hx ht]; rfl]
      obtain ⟨A, hA⟩ : ∃ A, decide (tm a) = A := ⟨_, rfl⟩
      obtain ⟨B, hB⟩ : ∃ B, decide (tm n) = B := ⟨_, rfl⟩
      have hab : (A && B) = false := by rw [← hA, ← hB, Bool.eq_false_iff]; intro h; rw [Bool.and_eq_true, decide_eq_true_iff, decide_eq_true_iff] at h; exact ht h
      rw [hA] at c1
      rw [hB] at c2
      clear hA hB ht hx
      cases A <;> cases B <;> first | (exfalso; cases hab; done) | skip
      all_goals
        clear hab
        go_enter Try.func15, Try.ntmps15
        go_wp2_with fail
        rw [← hW]
        clear hW
        refine k1.out.mono ?_
        rintro e w1 ⟨rfl, K1⟩
        have Z1 := Lib.hid (ZH.out.kept K1)
        have K2 := Lib.hid (KH.out.trans K1)
        clear b0 b1 b2 b3 b4 b5 K1 BH ZH KH
        have d0 := Z1.out.cell 0
        have d1 := Z1.out.cell 1
        have d2 := Z1.out.cell 2
        have d3 := Z1.out.cell 3
        have d4 := Z1.out.cell 4
        have d5 := Z1.out.cell 5
        have df0 := Z1.out.frozen 0
        have df1 := Z1.out.frozen 1
        have df2 := Z1.out.frozen 2
        have df3 := Z1.out.frozen 3
        have df4 := Z1.out.frozen 4
        have df5 := Z1.out.frozen 5
        go_wp2_with (go_at_call 35; (first | with_reducible refine (c1.out _).mono ?_ | with_reducible refine (c2.out _).mono ?_); rintro e w' ⟨rfl, rfl⟩)
        refine bodyPost_ret (v := .tuple #[wnV zero, .int .i64 9]) ?_ rfl ⟨rfl, ?_⟩
        · simp [results, Try.f15, go_sem, d0, d1, d2, d3, d4, d5, zero]
        · exact kept_six K2.out (by omega) _ _ _ _ _ _
  · rw [chk_no hx] at k1
    rw [show badE x a n = 2 from badE_arg hx, show badW x a n = zero by unfold badW; rw [badE_arg hx]; rfl]
    clear hx
    go_enter Try.func15, Try.ntmps15
    go_wp2_with fail
    rw [← hW]
    clear hW
    refine k1.out.mono ?_
    rintro e w1 ⟨rfl, K1⟩
    have Z1 := Lib.hid (ZH.out.kept K1)
    have K2 := Lib.hid (KH.out.trans K1)
    clear b0 b1 b2 b3 b4 b5 K1 BH ZH KH
    have d0 := Z1.out.cell 0
    have d1 := Z1.out.cell 1
    have d2 := Z1.out.cell 2
    have d3 := Z1.out.cell 3
    have d4 := Z1.out.cell 4
    have d5 := Z1.out.cell 5
    have df0 := Z1.out.frozen 0
    have df1 := Z1.out.frozen 1
    have df2 := Z1.out.frozen 2
    have df3 := Z1.out.frozen 3
    have df4 := Z1.out.frozen 4
    have df5 := Z1.out.frozen 5
    go_wp2_with fail
    refine bodyPost_ret (v := .tuple #[wnV zero, .int .i64 2]) ?_ rfl ⟨rfl, ?_⟩
    · simp [results, Try.f15, go_sem, d0, d1, d2, d3, d4, d5, zero]
    · exact kept_six K2.out (by omega) _ _ _ _ _ _
end Go.Proofs.Ytchnljebhbaghaa.Win
