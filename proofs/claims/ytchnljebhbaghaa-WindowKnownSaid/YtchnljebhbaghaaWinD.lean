/-
  Contracts of package window's functions: New, Collapse, Bad.
-/
import Derived.Test.YtchnljebhbaghaaWinY
import Derived.Test.YtchnljebhbaghaaWinC
namespace Go.Proofs.Ytchnljebhbaghaa.Win
open Go.RowKit WinM Wd
set_option linter.unusedVariables false
set_option linter.unusedSimpArgs false

/-- A window's box and the box of a result. -/
theorem two_box (w : World) (x : Wn) : ∃ W, W = ((w.alloc (.cells (wnA x) 23)).alloc (.cells zA 23)) ∧ Blk W w.heap.size 23 (wnA x) ∧ Blk W (w.heap.size + 1) 23 zA ∧ Kept w W := by
  refine ⟨_, rfl, (Blk.new _ _ _).kept ((Kept.refl _).alloc _), ?_, ((Kept.refl w).alloc _).alloc _⟩
  have := Blk.new (w.alloc (.cells (wnA x) 23)) 23 zA
  rwa [World.size_alloc] at this
/-- A box that a call stores its result into: nothing that was there has turned. -/
theorem kept_six {w W : World} {b : Nat} (h : Kept w W) (hb : w.heap.size ≤ b) (v0 v1 v2 v3 v4 v5 : Value) :
    Kept w ((((((W.setCell ⟨b, 0, none⟩ v0).setCell ⟨b, 1, none⟩ v1).setCell ⟨b, 2, none⟩ v2).setCell ⟨b, 3, none⟩ v3).setCell ⟨b, 4, none⟩ v4).setCell ⟨b, 5, none⟩ v5) :=
  (((((h.setCell (p := ⟨b, 0, none⟩) hb _).setCell (p := ⟨b, 1, none⟩) hb _).setCell (p := ⟨b, 2, none⟩) hb _).setCell (p := ⟨b, 3, none⟩) hb _).setCell (p := ⟨b, 4, none⟩) hb _).setCell (p := ⟨b, 5, none⟩) hb _
/-- The state's box is laid, and changed: nothing that was there has turned. -/
theorem kept_turn {w W W' : World} {p : Nat} (h : Kept w W) (hp : w.heap.size ≤ p) (b : But (fun k => k = p) W W') : Kept w W' := h.then_ b (fun i e => by omega)

theorem turn_restart {x : Wn} (h : Ok x) {W : World} {p : Nat} (hs : St W p x) : Calls Try.prog 33 #[.pointer (some ⟨p, 0, none⟩), .bool true, .func (.func 38) #[.pointer (some ⟨p, 0, none⟩)] #[], .int .i64 (-1)] W (Turn p (low x) W) := by
  have h1 := h.d0
  have h2 := h.d1
  exact changed_restart hs (-1) (fun V hv => restart_at hv (-1) (by omega) (by omega))
theorem turn_halve {x : Wn} (h : Ok x) (n : Int) {W : World} {p : Nat} (hs : St W p x) : Calls Try.prog 33 #[.pointer (some ⟨p, 0, none⟩), .bool true, .func (.func 37) #[.pointer (some ⟨p, 0, none⟩)] #[], .int .i64 n] W (Turn p (down x n) W) := by
  have h1 := h.d0
  have h2 := h.d1
  have h3 := h.c0
  have h4 := h.c1
  have h5 := h.m1
  exact changed_halve hs n (fun V hv => halve_at hv n (by omega) (by omega) (by omega) (by omega))
theorem turn_leap {x : Wn} (h : Ok x) (hl : x.t = -1 ∨ x.c < x.t) (z : Int) (h0 : 1 ≤ z) (h1 : z ≤ 65535) {W : World} {p : Nat} (hs : St W p x) : Calls Try.prog 33 #[.pointer (some ⟨p, 0, none⟩), .bool true, .func (.func 32) #[.pointer (some ⟨p, 0, none⟩)] #[], .int .i64 z] W (Turn p (up x z) W) := by
  have e : up x z = { x with c := min (x.c + z) x.m } := by unfold up; rw [if_pos (by rw [slow_ok h]; exact decide_eq_true hl)]
  have h3 := h.c0
  have h4 := h.c1
  have h5 := h.m1
  have h6 := h.d0
  rw [e]
  exact changed_leap hs z (fun V hv => leap_at hv z (by omega) (by omega) (by omega) (by omega))
theorem turn_creep {x : Wn} (h : Ok x) (hl : ¬ (x.t = -1 ∨ x.c < x.t)) (z : Int) (h0 : 1 ≤ z) (h1 : z ≤ 65535) {W : World} {p : Nat} (hs : St W p x) : Calls Try.prog 33 #[.pointer (some ⟨p, 0, none⟩), .bool true, .func (.func 30) #[.pointer (some ⟨p, 0, none⟩)] #[], .int .i64 z] W (Turn p (up x z) W) := by
  have e : up x z = { x with c := (grow x.d x.m x.c (x.g + z)).1, g := (grow x.d x.m x.c (x.g + z)).2 } := by unfold up; rw [if_neg (by rw [slow_ok h, decide_eq_false hl]; decide)]
  have h3 := h.c0
  have h4 := h.c1
  have h5 := h.m1
  have h6 := h.d0
  have h7 := h.d1
  have h8 := h.g0
  have h9 := h.g1
  rw [e]
  exact changed_creep hs z (fun V hv => creep_at hv z (by omega) (by omega) (by omega) (by omega) (by omega) (by omega) (by omega) (by omega) (by omega))

set_option maxRecDepth 100000 in
theorem collapse_any (x : Wn) (w : World) : Calls Try.prog 16 #[wnV x] w (Gives (.tuple #[wnV (colW x), .int .i64 (chk x)]) w) := by
  obtain ⟨W, hW, B0, Z0, K0⟩ := two_box w x
  have k1 := Lib.hid (check_any x W)
  have BH := Lib.hid B0
  have ZH := Lib.hid Z0
  have KH := Lib.hid K0
  have b0 := BH.out.cell 0
  have b1 := BH.out.cell 1
  have b2 := BH.out.cell 2
  have b3 := BH.out.cell 3
  have b4 := BH.out.cell 4
  have b5 := BH.out.cell 5
  clear B0 Z0 K0
  by_cases hx : Ok x
  · rw [chk_ok hx] at k1 ⊢
    rw [(col_ok hx).1]
    have k2 := Lib.hid (fun W p => turn_restart hx (W := W) (p := p))
    clear hx
    obtain ⟨Y, hY⟩ : ∃ Y, low x = Y := ⟨_, rfl⟩
    rw [hY] at k2 ⊢
    clear hY
    go_enter Try.func16, Try.ntmps16
    go_wp2_with fail
    rw [← hW]
    clear hW
    refine k1.out.mono ?_
    rintro e w1 ⟨rfl, K1⟩
    have B1 := Lib.hid (BH.out.kept K1)
    have Z1 := Lib.hid (ZH.out.kept K1)
    have K2 := Lib.hid (KH.out.trans K1)
    clear b0 b1 b2 b3 b4 b5 K1 BH ZH KH
    have b0 := B1.out.cell 0
    have b1 := B1.out.cell 1
    have b2 := B1.out.cell 2
    have b3 := B1.out.cell 3
    have b4 := B1.out.cell 4
    have b5 := B1.out.cell 5
    have S1 := Lib.hid (Blk.new w1 56 (wnA x))
    have hp1 : w.heap.size + 2 ≤ w1.heap.size := by have := Z1.out.lt; omega
    go_wp2_with fail
    refine (k2.out _ _ S1.out).mono ?_
    rintro e w2 ⟨rfl, hb⟩
    have Z2 := Lib.hid ((Z1.out.kept ((Kept.refl _).alloc _)).but hb (by omega))
    have K3 := Lib.hid (kept_turn (K2.out.alloc _) (by omega) hb)
    clear b0 b1 b2 b3 b4 b5 hb Z1 K2 B1 S1 k2
    have d0 := Z2.out.cell 0
    have d1 := Z2.out.cell 1
    have d2 := Z2.out.cell 2
    have d3 := Z2.out.cell 3
    have d4 := Z2.out.cell 4
    have d5 := Z2.out.cell 5
    have df0 := Z2.out.frozen 0
    have df1 := Z2.out.frozen 1
    have df2 := Z2.out.frozen 2
    have df3 := Z2.out.frozen 3
    have df4 := Z2.out.frozen 4
    have df5 := Z2.out.frozen 5
    go_wp2_with fail
    refine bodyPost_ret (v := .tuple #[wnV Y, .int .i64 0]) ?_ rfl ⟨rfl, ?_⟩
    · simp [results, Try.f16, go_sem, d0, d1, d2, d3, d4, d5]
    · exact kept_six K3.out (Nat.le_succ _) _ _ _ _ _ _
  · rw [chk_no hx] at k1 ⊢
    rw [show colW x = zero from if_neg hx]
    clear hx
    go_enter Try.func16, Try.ntmps16
    go_wp2_with fail
    rw [← hW]
    clear hW
    refine k1.out.mono ?_
    rintro e w1 ⟨rfl, K1⟩
    have Z1 := Lib.hid (ZH.out.kept K1)
    have K2 := Lib.hid (KH.out.trans K1)
    clear b0 b1 b2 b3 b4 b5 K1 BH ZH KH
    have d0 := Z1.out.cell 0
    have d1 := Z1.out.cell 1
    have d2 := Z1.out.cell 2
    have d3 := Z1.out.cell 3
    have d4 := Z1.out.cell 4
    have d5 := Z1.out.cell 5
    have df0 := Z1.out.frozen 0
    have df1 := Z1.out.frozen 1
    have df2 := Z1.out.frozen 2
    have df3 := Z1.out.frozen 3
    have df4 := Z1.out.frozen 4
    have df5 := Z1.out.frozen 5
    go_wp2_with fail
    refine bodyPost_ret (v := .tuple #[wnV zero, .int .i64 2]) ?_ rfl ⟨rfl, ?_⟩
    · simp [results, Try.f16, go_sem, d0, d1, d2, d3, d4, d5, zero]
    · exact kept_six K2.out (Nat.le_succ _) _ _ _ _ _ _

set_option maxRecDepth 100000 in
theorem bad_any (x : Wn) (a n : Int) (w : World) : Calls Try.prog 14 #[wnV x, .int .i64 a, .int .i64 n] w (Gives (.tuple #[wnV (badW x a n), .int .i64 (badE x a n)]) w) := by
  obtain ⟨W, hW, B0, Z0, K0⟩ := two_box w x
  have k1 := Lib.hid (check_any x W)
  have BH := Lib.hid B0
  have ZH := Lib.hid Z0
  have KH := Lib.hid K0
  have b0 := BH.out.cell 0
  have b1 := BH.out.cell 1
  have b2 := BH.out.cell 2
  have b3 := BH.out.cell 3
  have b4 := BH.out.cell 4
  have b5 := BH.out.cell 5
  clear B0 Z0 K0
  by_cases hx : Ok x
  · rw [chk_ok hx] at k1
    by_cases ht : tm a ∧ tm n
    · have c1 := Lib.hid (isTime_any a)
      have c2 := Lib.hid (isTime_any n)
      rw [decide_eq_true ht.1] at c1
      rw [decide_eq_true ht.2] at c2
      have k3 := Lib.hid (fun W p h => isAfter_at (w := W) (p := p) (x := x) h a)
      rw [show badE x a n = 0 from badE_ok hx ht.1 ht.2]
      obtain ⟨Y, B, hY, hB, k2⟩ : ∃ Y B, badW x a n = Y ∧ behindB x a = B ∧ (∀ W p, St W p x → Calls Try.prog 33 #[.pointer (some ⟨p, 0, none⟩), .bool B, .func (.func 37) #[.pointer (some ⟨p, 0, none⟩)] #[], .int .i64 n] W (Turn p Y W)) := by
        refine ⟨_, _, rfl, rfl, ?_⟩
        cases hb : behindB x a with
        | true => rw [bad_near hx ht.1 ht.2 hb]; exact fun W p h => turn_halve hx n h
        | false => rw [bad_far hx ht.1 ht.2 hb]; exact fun W p h => changed_no h _ n
      rw [hY]
      rw [hB] at k3
      have k4 := Lib.hid k2
      clear hY hB ht hx k2
      go_enter Try.func14, Try.ntmps14
      go_wp2_with fail
      rw [← hW]
      clear hW
      refine k1.out.mono ?_
      rintro e w1 ⟨rfl, K1⟩
      have B1 := Lib.hid (BH.out.kept K1)
      have Z1 := Lib.hid (ZH.out.kept K1)
      have K2 := Lib.hid (KH.out.trans K1)
      clear b0 b1 b2 b3 b4 b5 K1 BH ZH KH
      have b0 := B1.out.cell 0
      have b1 := B1.out.cell 1
      have b2 := B1.out.cell 2
      have b3 := B1.out.cell 3
      have b4 := B1.out.cell 4
      have b5 := B1.out.cell 5
      have S1 := Lib.hid (Blk.new w1 56 (wnA x))
      have hp1 : w.heap.size + 2 ≤ w1.heap.size := by have := Z1.out.lt; omega
      go_wp2_with (go_at_call 29; (first | with_reducible refine (c1.out _).mono ?_ | with_reducible refine (c2.out _).mono ?_); rintro e w' ⟨rfl, rfl⟩)
      refine (k3.out _ _ S1.out).mono ?_
      rintro e w2 ⟨rfl, rfl⟩
      go_wp2_with fail
      refine (k4.out _ _ S1.out).mono ?_
      rintro e w2 ⟨rfl, hb⟩
      have Z2 := Lib.hid ((Z1.out.kept ((Kept.refl _).alloc _)).but hb (by omega))
      have K3 := Lib.hid (kept_turn (K2.out.alloc _) (by omega) hb)
      clear b0 b1 b2 b3 b4 b5 hb Z1 K2 B1 S1 k4
      have d0 := Z2.out.cell 0
      have d1 := Z2.out.cell 1
      have d2 := Z2.out.cell 2
      have d3 := Z2.out.cell 3
      have d4 := Z2.out.cell 4
      have d5 := Z2.out.cell 5
      have df0 := Z2.out.frozen 0
      have df1 := Z2.out.frozen 1
      have df2 := Z2.out.frozen 2
      have df3 := Z2.out.frozen 3
      have df4 := Z2.out.frozen 4
      have df5 := Z2.out.frozen 5
      go_wp2_with fail
      refine bodyPost_ret (v := .tuple #[wnV Y, .int .i64 0]) ?_ rfl ⟨rfl, ?_⟩
      · simp [results, Try.f14, go_sem, d0, d1, d2, d3, d4, d5]
      · exact kept_six K3.out (Nat.le_succ _) _ _ _ _ _ _
    · have c1 := Lib.hid (isTime_any a)
      have c2 := Lib.hid (isTime_any n)
      rw [show badE x a n = 9 from badE_rng hx ht, show badW x a n = zero by unfold badW; rw [badE_rng hx ht]; rfl]
      obtain ⟨A, hA⟩ : ∃ A, decide (tm a) = A := ⟨_, rfl⟩
      obtain ⟨B, hB⟩ : ∃ B, decide (tm n) = B := ⟨_, rfl⟩
      have hab : (A && B) = false := by rw [← hA, ← hB, Bool.eq_false_iff]; intro h; rw [Bool.and_eq_true, decide_eq_true_iff, decide_eq_true_iff] at h; exact ht h
      rw [hA] at c1
      rw [hB] at c2
      clear hA hB ht hx
      cases A <;> cases B <;> first | (exfalso; cases hab; done) | skip
      all_goals
        clear hab
        go_enter Try.func14, Try.ntmps14
        go_wp2_with fail
        rw [← hW]
        clear hW
        refine k1.out.mono ?_
        rintro e w1 ⟨rfl, K1⟩
        have Z1 := Lib.hid (ZH.out.kept K1)
        have K2 := Lib.hid (KH.out.trans K1)
        clear b0 b1 b2 b3 b4 b5 K1 BH ZH KH
        have d0 := Z1.out.cell 0
        have d1 := Z1.out.cell 1
        have d2 := Z1.out.cell 2
        have d3 := Z1.out.cell 3
        have d4 := Z1.out.cell 4
        have d5 := Z1.out.cell 5
        have df0 := Z1.out.frozen 0
        have df1 := Z1.out.frozen 1
        have df2 := Z1.out.frozen 2
        have df3 := Z1.out.frozen 3
        have df4 := Z1.out.frozen 4
        have df5 := Z1.out.frozen 5
        go_wp2_with (go_at_call 29; (first | with_reducible refine (c1.out _).mono ?_ | with_reducible refine (c2.out _).mono ?_); rintro e w' ⟨rfl, rfl⟩)
        refine bodyPost_ret (v := .tuple #[wnV zero, .int .i64 9]) ?_ rfl ⟨rfl, ?_⟩
        · simp [results, Try.f14, go_sem, d0, d1, d2, d3, d4, d5, zero]
        · exact kept_six K2.out (Nat.le_succ _) _ _ _ _ _ _
  · rw [chk_no hx] at k1
    rw [show badE x a n = 2 from badE_arg hx, show badW x a n = zero by unfold badW; rw [badE_arg hx]; rfl]
    clear hx
    go_enter Try.func14, Try.ntmps14
    go_wp2_with fail
    rw [← hW]
    clear hW
    refine k1.out.mono ?_
    rintro e w1 ⟨rfl, K1⟩
    have Z1 := Lib.hid (ZH.out.kept K1)
    have K2 := Lib.hid (KH.out.trans K1)
    clear b0 b1 b2 b3 b4 b5 K1 BH ZH KH
    have d0 := Z1.out.cell 0
    have d1 := Z1.out.cell 1
    have d2 := Z1.out.cell 2
    have d3 := Z1.out.cell 3
    have d4 := Z1.out.cell 4
    have d5 := Z1.out.cell 5
    have df0 := Z1.out.frozen 0
    have df1 := Z1.out.frozen 1
    have df2 := Z1.out.frozen 2
    have df3 := Z1.out.frozen 3
    have df4 := Z1.out.frozen 4
    have df5 := Z1.out.frozen 5
    go_wp2_with fail
    refine bodyPost_ret (v := .tuple #[wnV zero, .int .i64 2]) ?_ rfl ⟨rfl, ?_⟩
    · simp [results, Try.f14, go_sem, d0, d1, d2, d3, d4, d5, zero]
    · exact kept_six K2.out (Nat.le_succ _) _ _ _ _ _ _

set_option maxRecDepth 100000 in
theorem new_any (d f m : Int) (w : World) : Calls Try.prog 18 #[.int .i64 d, .int .i64 f, .int .i64 m] w (Gives (.tuple #[wnV (newW d f m), .int .i64 (newE d f m)]) w) := by
  obtain ⟨W, hW, Z0, B0, K0⟩ : ∃ W, W = ((w.alloc (.cells zA 23)).alloc (.cells #[.int .i64 d, .int .i64 m, .int .i64 f, .int .i64 (-1), .int .i64 (-1), .int .i64 0] 23)) ∧ Blk W w.heap.size 23 zA ∧ Blk W (w.heap.size + 1) 23 #[.int .i64 d, .int .i64 m, .int .i64 f, .int .i64 (-1), .int .i64 (-1), .int .i64 0] ∧ Kept w W := by
    refine ⟨_, rfl, (Blk.new _ _ _).kept ((Kept.refl _).alloc _), ?_, ((Kept.refl w).alloc _).alloc _⟩
    have := Blk.new (w.alloc (.cells zA 23)) 23 #[.int .i64 d, .int .i64 m, .int .i64 f, .int .i64 (-1), .int .i64 (-1), .int .i64 0]
    rwa [World.size_alloc] at this
  have k1 : Hid (Calls Try.prog 20 #[.agg #[.int .i64 d, .int .i64 m, .int .i64 f, .int .i64 (-1), .int .i64 (-1), .int .i64 0]] W (Gives (.int .i64 (chk (first d f m))) W)) := Lib.hid (check_any (first d f m) W)
  have BH := Lib.hid B0
  have ZH := Lib.hid Z0
  have KH := Lib.hid K0
  have b0 := BH.out.cell 0
  have b1 := BH.out.cell 1
  have b2 := BH.out.cell 2
  have b3 := BH.out.cell 3
  have b4 := BH.out.cell 4
  have b5 := BH.out.cell 5
  clear B0 Z0 K0
  unfold newW newE
  by_cases hx : Ok (first d f m)
  · rw [if_pos hx]
    rw [chk_ok hx] at k1 ⊢
    clear hx
    go_enter Try.func18, Try.ntmps18
    go_wp2_with fail
    rw [← hW]
    clear hW
    refine k1.out.mono ?_
    rintro e w1 ⟨rfl, K1⟩
    have B1 := Lib.hid (BH.out.kept K1)
    have Z1 := Lib.hid (ZH.out.kept K1)
    have K2 := Lib.hid (KH.out.trans K1)
    clear b0 b1 b2 b3 b4 b5 K1 BH ZH KH
    have b0 := B1.out.cell 0
    have b1 := B1.out.cell 1
    have b2 := B1.out.cell 2
    have b3 := B1.out.cell 3
    have b4 := B1.out.cell 4
    have b5 := B1.out.cell 5
    have d0 := Z1.out.cell 0
    have d1 := Z1.out.cell 1
    have d2 := Z1.out.cell 2
    have d3 := Z1.out.cell 3
    have d4 := Z1.out.cell 4
    have d5 := Z1.out.cell 5
    have df0 := Z1.out.frozen 0
    have df1 := Z1.out.frozen 1
    have df2 := Z1.out.frozen 2
    have df3 := Z1.out.frozen 3
    have df4 := Z1.out.frozen 4
    have df5 := Z1.out.frozen 5
    go_wp2_with fail
    refine bodyPost_ret (v := .tuple #[wnV (first d f m), .int .i64 0]) ?_ rfl ⟨rfl, ?_⟩
    · simp [results, Try.f18, go_sem, d0, d1, d2, d3, d4, d5, first]
    · exact kept_six K2.out (Nat.le_refl _) _ _ _ _ _ _
  · rw [if_neg hx]
    rw [chk_no hx] at k1 ⊢
    clear hx
    go_enter Try.func18, Try.ntmps18
    go_wp2_with fail
    rw [← hW]
    clear hW
    refine k1.out.mono ?_
    rintro e w1 ⟨rfl, K1⟩
    have Z1 := Lib.hid (ZH.out.kept K1)
    have K2 := Lib.hid (KH.out.trans K1)
    clear b0 b1 b2 b3 b4 b5 K1 BH ZH KH
    have d0 := Z1.out.cell 0
    have d1 := Z1.out.cell 1
    have d2 := Z1.out.cell 2
    have d3 := Z1.out.cell 3
    have d4 := Z1.out.cell 4
    have d5 := Z1.out.cell 5
    have df0 := Z1.out.frozen 0
    have df1 := Z1.out.frozen 1
    have df2 := Z1.out.frozen 2
    have df3 := Z1.out.frozen 3
    have df4 := Z1.out.frozen 4
    have df5 := Z1.out.frozen 5
    go_wp2_with fail
    refine bodyPost_ret (v := .tuple #[wnV zero, .int .i64 2]) ?_ rfl ⟨rfl, ?_⟩
    · simp [results, Try.f18, go_sem, d0, d1, d2, d3, d4, d5, zero]
    · exact kept_six K2.out (Nat.le_refl _) _ _ _ _ _ _
end Go.Proofs.Ytchnljebhbaghaa.Win
