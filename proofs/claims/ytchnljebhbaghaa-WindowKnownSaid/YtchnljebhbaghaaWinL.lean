/-
  The law's own: is, acked, bad, made.
-/
import Derived.Test.YtchnljebhbaghaaWinA
namespace Go.Proofs.Ytchnljebhbaghaa.Win
open Go.RowKit WinM Wd
set_option linter.unusedVariables false
set_option linter.unusedSimpArgs false

set_option maxRecDepth 100000 in
set_option maxHeartbeats 1000000 in
theorem law_acked (x : Wn) (a z : Int) (w : World) : Calls Try.prog 28 #[wnV x, .int .i64 a, .int .i64 z] w (Gives (wnV (ackW x a z true)) w) := by
  obtain ⟨W, hW, B0, Z0, K0⟩ := two_box w x
  have BH := Lib.hid B0
  have ZH := Lib.hid Z0
  have KH := Lib.hid K0
  have b0 := BH.out.cell 0
  have b1 := BH.out.cell 1
  have b2 := BH.out.cell 2
  have b3 := BH.out.cell 3
  have b4 := BH.out.cell 4
  have b5 := BH.out.cell 5
  clear B0 Z0 K0
  have k1 := Lib.hid (fun W => acked_any x ⟨0, a, z, false, false, false⟩ true W)
  obtain ⟨Y, hY⟩ : ∃ Y, ackW x a z true = Y := ⟨_, rfl⟩
  obtain ⟨E, hE⟩ : ∃ E, ackE x a z = E := ⟨_, rfl⟩
  have hz : E ≠ 0 → Y = zero := by intro h; rw [← hY]; unfold ackW; rw [hE, if_neg h]
  rw [hY] at k1 ⊢
  rw [hE] at k1
  clear hY hE
  by_cases he : E = 0
  · subst he
    clear hz
    go_enter Try.func28, Try.ntmps28
    go_wp2_with fail
    rw [← hW]
    clear hW
    refine (k1.out _).mono ?_
    rintro e w1 ⟨rfl, K1⟩
    have B1 := Lib.hid (BH.out.kept K1)
    have Z1 := Lib.hid (ZH.out.kept K1)
    have K2 := Lib.hid (KH.out.trans K1)
    clear b0 b1 b2 b3 b4 b5 K1 BH ZH KH
    have b0 := B1.out.cell 0
    have b1 := B1.out.cell 1
    have b2 := B1.out.cell 2
    have b3 := B1.out.cell 3
    have b4 := B1.out.cell 4
    have b5 := B1.out.cell 5
    have bf0 := B1.out.frozen 0
    have bf1 := B1.out.frozen 1
    have bf2 := B1.out.frozen 2
    have bf3 := B1.out.frozen 3
    have bf4 := B1.out.frozen 4
    have bf5 := B1.out.frozen 5
    have d0 := Z1.out.cell 0
    have d1 := Z1.out.cell 1
    have d2 := Z1.out.cell 2
    have d3 := Z1.out.cell 3
    have d4 := Z1.out.cell 4
    have d5 := Z1.out.cell 5
    have df0 := Z1.out.frozen 0
    have df1 := Z1.out.frozen 1
    have df2 := Z1.out.frozen 2
    have df3 := Z1.out.frozen 3
    have df4 := Z1.out.frozen 4
    have df5 := Z1.out.frozen 5
    go_wp2_with fail
    refine bodyPost_ret (v := wnV Y) ?_ rfl ⟨rfl, ?_⟩
    · simp [results, Try.f28, go_sem, d0, d1, d2, d3, d4, d5, zero]
    · exact kept_six (kept_six K2.out (Nat.le_refl _) _ _ _ _ _ _) (Nat.le_succ _) _ _ _ _ _ _
  · rw [hz he]
    have hzb : (E == 0) = false := by simpa using he
    clear hz
    go_enter Try.func28, Try.ntmps28
    go_wp2_with fail
    rw [← hW]
    clear hW
    refine (k1.out _).mono ?_
    rintro e w1 ⟨rfl, K1⟩
    have B1 := Lib.hid (BH.out.kept K1)
    have Z1 := Lib.hid (ZH.out.kept K1)
    have K2 := Lib.hid (KH.out.trans K1)
    clear b0 b1 b2 b3 b4 b5 K1 BH ZH KH
    have b0 := B1.out.cell 0
    have b1 := B1.out.cell 1
    have b2 := B1.out.cell 2
    have b3 := B1.out.cell 3
    have b4 := B1.out.cell 4
    have b5 := B1.out.cell 5
    have bf0 := B1.out.frozen 0
    have bf1 := B1.out.frozen 1
    have bf2 := B1.out.frozen 2
    have bf3 := B1.out.frozen 3
    have bf4 := B1.out.frozen 4
    have bf5 := B1.out.frozen 5
    have d0 := Z1.out.cell 0
    have d1 := Z1.out.cell 1
    have d2 := Z1.out.cell 2
    have d3 := Z1.out.cell 3
    have d4 := Z1.out.cell 4
    have d5 := Z1.out.cell 5
    have df0 := Z1.out.frozen 0
    have df1 := Z1.out.frozen 1
    have df2 := Z1.out.frozen 2
    have df3 := Z1.out.frozen 3
    have df4 := Z1.out.frozen 4
    have df5 := Z1.out.frozen 5
    go_wp2_with fail
    refine bodyPost_ret (v := wnV zero) ?_ rfl ⟨rfl, ?_⟩
    · simp [results, Try.f28, go_sem, d0, d1, d2, d3, d4, d5, zero]
    · exact kept_six (kept_six K2.out (Nat.le_refl _) _ _ _ _ _ _) (Nat.le_succ _) _ _ _ _ _ _

set_option maxRecDepth 100000 in
set_option maxHeartbeats 1000000 in
theorem law_bad (x : Wn) (a z : Int) (w : World) : Calls Try.prog 27 #[wnV x, .int .i64 a, .int .i64 z] w (Gives (wnV (badW x a z)) w) := by
  obtain ⟨W, hW, B0, Z0, K0⟩ := two_box w x
  have BH := Lib.hid B0
  have ZH := Lib.hid Z0
  have KH := Lib.hid K0
  have b0 := BH.out.cell 0
  have b1 := BH.out.cell 1
  have b2 := BH.out.cell 2
  have b3 := BH.out.cell 3
  have b4 := BH.out.cell 4
  have b5 := BH.out.cell 5
  clear B0 Z0 K0
  have k1 := Lib.hid (fun W => bad_any x a z W)
  obtain ⟨Y, hY⟩ : ∃ Y, badW x a z = Y := ⟨_, rfl⟩
  obtain ⟨E, hE⟩ : ∃ E, badE x a z = E := ⟨_, rfl⟩
  have hz : E ≠ 0 → Y = zero := by intro h; rw [← hY]; unfold badW; rw [hE, if_neg h]
  rw [hY] at k1 ⊢
  rw [hE] at k1
  clear hY hE
  by_cases he : E = 0
  · subst he
    clear hz
    go_enter Try.func27, Try.ntmps27
    go_wp2_with fail
    rw [← hW]
    clear hW
    refine (k1.out _).mono ?_
    rintro e w1 ⟨rfl, K1⟩
    have B1 := Lib.hid (BH.out.kept K1)
    have Z1 := Lib.hid (ZH.out.kept K1)
    have K2 := Lib.hid (KH.out.trans K1)
    clear b0 b1 b2 b3 b4 b5 K1 BH ZH KH
    have b0 := B1.out.cell 0
    have b1 := B1.out.cell 1
    have b2 := B1.out.cell 2
    have b3 := B1.out.cell 3
    have b4 := B1.out.cell 4
    have b5 := B1.out.cell 5
    have bf0 := B1.out.frozen 0
    have bf1 := B1.out.frozen 1
    have bf2 := B1.out.frozen 2
    have bf3 := B1.out.frozen 3
    have bf4 := B1.out.frozen 4
    have bf5 := B1.out.frozen 5
    have d0 := Z1.out.cell 0
    have d1 := Z1.out.cell 1
    have d2 := Z1.out.cell 2
    have d3 := Z1.out.cell 3
    have d4 := Z1.out.cell 4
    have d5 := Z1.out.cell 5
    have df0 := Z1.out.frozen 0
    have df1 := Z1.out.frozen 1
    have df2 := Z1.out.frozen 2
    have df3 := Z1.out.frozen 3
    have df4 := Z1.out.frozen 4
    have df5 := Z1.out.frozen 5
    go_wp2_with fail
    refine bodyPost_ret (v := wnV Y) ?_ rfl ⟨rfl, ?_⟩
    · simp [results, Try.f27, go_sem, d0, d1, d2, d3, d4, d5, zero]
    · exact kept_six (kept_six K2.out (Nat.le_refl _) _ _ _ _ _ _) (Nat.le_succ _) _ _ _ _ _ _
  · rw [hz he]
    have hzb : (E == 0) = false := by simpa using he
    clear hz
    go_enter Try.func27, Try.ntmps27
    go_wp2_with fail
    rw [← hW]
    clear hW
    refine (k1.out _).mono ?_
    rintro e w1 ⟨rfl, K1⟩
    have B1 := Lib.hid (BH.out.kept K1)
    have Z1 := Lib.hid (ZH.out.kept K1)
    have K2 := Lib.hid (KH.out.trans K1)
    clear b0 b1 b2 b3 b4 b5 K1 BH ZH KH
    have b0 := B1.out.cell 0
    have b1 := B1.out.cell 1
    have b2 := B1.out.cell 2
    have b3 := B1.out.cell 3
    have b4 := B1.out.cell 4
    have b5 := B1.out.cell 5
    have bf0 := B1.out.frozen 0
    have bf1 := B1.out.frozen 1
    have bf2 := B1.out.frozen 2
    have bf3 := B1.out.frozen 3
    have bf4 := B1.out.frozen 4
    have bf5 := B1.out.frozen 5
    have d0 := Z1.out.cell 0
    have d1 := Z1.out.cell 1
    have d2 := Z1.out.cell 2
    have d3 := Z1.out.cell 3
    have d4 := Z1.out.cell 4
    have d5 := Z1.out.cell 5
    have df0 := Z1.out.frozen 0
    have df1 := Z1.out.frozen 1
    have df2 := Z1.out.frozen 2
    have df3 := Z1.out.frozen 3
    have df4 := Z1.out.frozen 4
    have df5 := Z1.out.frozen 5
    go_wp2_with fail
    refine bodyPost_ret (v := wnV zero) ?_ rfl ⟨rfl, ?_⟩
    · simp [results, Try.f27, go_sem, d0, d1, d2, d3, d4, d5, zero]
    · exact kept_six (kept_six K2.out (Nat.le_refl _) _ _ _ _ _ _) (Nat.le_succ _) _ _ _ _ _ _

theorem six_blk {w : World} {b : Nat} {t : TypeId} {x y : Wn} (h : Blk w b t (wnA x)) : Blk ((((((w.setCell ⟨b, 0, none⟩ (.int .i64 y.d)).setCell ⟨b, 1, none⟩ (.int .i64 y.m)).setCell ⟨b, 2, none⟩ (.int .i64 y.c)).setCell ⟨b, 3, none⟩ (.int .i64 y.t)).setCell ⟨b, 4, none⟩ (.int .i64 y.s)).setCell ⟨b, 5, none⟩ (.int .i64 y.g)) b t (wnA y) :=
  (((((h.set_ 0 _).set_ 1 _).set_ 2 _).set_ 3 _).set_ 4 _).set_ 5 _
theorem six_far {w : World} {b k : Nat} {t : TypeId} {cs : Array Value} (h : Blk w k t cs) (hk : k ≠ b) (y : Wn) : Blk ((((((w.setCell ⟨b, 0, none⟩ (.int .i64 y.d)).setCell ⟨b, 1, none⟩ (.int .i64 y.m)).setCell ⟨b, 2, none⟩ (.int .i64 y.c)).setCell ⟨b, 3, none⟩ (.int .i64 y.t)).setCell ⟨b, 4, none⟩ (.int .i64 y.s)).setCell ⟨b, 5, none⟩ (.int .i64 y.g)) k t cs :=
  (((((h.far (p := ⟨b, 0, none⟩) hk _).far (p := ⟨b, 1, none⟩) hk _).far (p := ⟨b, 2, none⟩) hk _).far (p := ⟨b, 3, none⟩) hk _).far (p := ⟨b, 4, none⟩) hk _).far (p := ⟨b, 5, none⟩) hk _

/-- A row of two numbers that a call laid. -/
abbrev Lit (W : World) (g : Nat) (a b : Int) : Prop := Blk W g 3 #[.int .i64 a, .int .i64 b]
set_option maxRecDepth 100000 in
set_option maxHeartbeats 1000000 in
theorem is_yes (x : Wn) (g : Nat) (w : World) (h : Lit w g x.s x.g) :
    Calls Try.prog 41 #[wnV x, .int .i64 x.c, .int .i64 x.t, .slice (some ⟨g, 0, none⟩) 2 2] w (Gives (.bool true) w) := by
  obtain ⟨W, hW, B0, K0⟩ : ∃ W, W = w.alloc (.cells (wnA x) 23) ∧ Blk W w.heap.size 23 (wnA x) ∧ Kept w W := ⟨_, rfl, Blk.new _ _ _, (Kept.refl w).alloc _⟩
  have L0 := h.kept K0
  have l0 := L0.cell 0
  have l1 := L0.cell 1
  have b2 := B0.cell 2
  have b3 := B0.cell 3
  have b4 := B0.cell 4
  have b5 := B0.cell 5
  have KK := Lib.hid K0
  clear K0 B0 L0 h
  go_enter Try.func41, Try.ntmps41
  go_wp2_with fail
  rw [← hW]
  clear hW
  go_quiet (fail)
  go_wp2_with fail
  go_ret
  exact ⟨rfl, KK.out.drewN _⟩
set_option maxRecDepth 100000 in
set_option maxHeartbeats 1000000 in
theorem made_any (x y z : Int) (w : World) : Calls Try.prog 25 #[.agg #[.int .i64 x, .int .i64 y, .int .i64 z]] w (Gives (wnV (made x y z)) w) := by
  have hd := madeD_bd x
  have hm := madeM_bd x z
  have hc := madeC_bd x y z
  have e1 : 1200 + x % 64328 = madeD x := rfl
  have e2 : 2 * madeD x + z % (1099511627776 - 2 * madeD x + 1) = madeM x z := rfl
  have e3 : 2 * madeD x + y % (madeM x z - 2 * madeD x + 1) = madeC x y z := rfl
  have k4 : ∀ W, Calls Try.prog 18 #[.int .i64 (madeD x), .int .i64 (madeC x y z), .int .i64 (madeM x z)] W (Gives (.tuple #[wnV (made x y z), .int .i64 0]) W) := by
    intro W
    have h := new_any (madeD x) (madeC x y z) (madeM x z) W
    have ho : Ok (first (madeD x) (madeC x y z) (madeM x z)) := made_ok x y z
    rw [show newW (madeD x) (madeC x y z) (madeM x z) = made x y z from if_pos ho, show newE (madeD x) (madeC x y z) (madeM x z) = 0 from chk_ok ho] at h
    exact h
  obtain ⟨Y, hY⟩ : ∃ Y, made x y z = Y := ⟨_, rfl⟩
  rw [hY] at k4 ⊢
  generalize hD : madeD x = d at *
  generalize hM : madeM x z = m at *
  generalize hC : madeC x y z = c at *
  have k1 := Lib.hid (fun W => bring_any x 64328 W (by decide) (by decide))
  have k2 := Lib.hid (fun W => bring_any z (1099511627776 - 2 * d + 1) W (by omega) (by omega))
  have k3 := Lib.hid (fun W => bring_any y (m - 2 * d + 1) W (by omega) (by omega))
  have w1 : IntKind.i64.wrap (1200 + x % 64328) = d := by rw [e1]; exact IntWalk.i64_in _ (by omega)
  have w2 : IntKind.i64.wrap (2 * d) = 2 * d := IntWalk.i64_in _ (by omega)
  have w3 : IntKind.i64.wrap (1099511627776 - 2 * d) = 1099511627776 - 2 * d := IntWalk.i64_in _ (by omega)
  have w4 : IntKind.i64.wrap (1099511627776 - 2 * d + 1) = 1099511627776 - 2 * d + 1 := IntWalk.i64_in _ (by omega)
  have w5 : IntKind.i64.wrap (2 * d + z % (1099511627776 - 2 * d + 1)) = m := by rw [e2]; exact IntWalk.i64_in _ (by omega)
  have w6 : IntKind.i64.wrap (m - 2 * d) = m - 2 * d := IntWalk.i64_in _ (by omega)
  have w7 : IntKind.i64.wrap (m - 2 * d + 1) = m - 2 * d + 1 := IntWalk.i64_in _ (by omega)
  have w8 : IntKind.i64.wrap (2 * d + y % (m - 2 * d + 1)) = c := by rw [e3]; exact IntWalk.i64_in _ (by omega)
  clear e1 e2 e3 hd hm hc hD hM hC hY
  obtain ⟨W, hW, B0, Z0, K0⟩ : ∃ W, W = ((w.alloc (.cells #[.int .i64 x, .int .i64 y, .int .i64 z] 26)).alloc (.cells zA 23)) ∧ Blk W w.heap.size 26 #[.int .i64 x, .int .i64 y, .int .i64 z] ∧ Blk W (w.heap.size + 1) 23 zA ∧ Kept w W := by
    refine ⟨_, rfl, (Blk.new _ _ _).kept ((Kept.refl _).alloc _), ?_, ((Kept.refl w).alloc _).alloc _⟩
    have := Blk.new (w.alloc (.cells #[.int .i64 x, .int .i64 y, .int .i64 z] 26)) 23 zA
    rwa [World.size_alloc] at this
  have x0 := B0.cell 0
  have x1 := B0.cell 1
  have x2 := B0.cell 2
  have ZH := Lib.hid Z0
  have KH := Lib.hid K0
  clear B0 Z0 K0
  go_enter Try.func25, Try.ntmps25
  go_wp2_with fail
  rw [← hW]
  clear hW
  refine (k1.out _).mono ?_
  rintro e w' ⟨rfl, rfl⟩
  go_wp2_with (go_at_call 11; (first | with_reducible refine (k2.out _).mono ?_ | with_reducible refine (k3.out _).mono ?_); rintro e w' ⟨rfl, rfl⟩)
  refine (k4 _).mono ?_
  rintro e w1 ⟨rfl, K1⟩
  have Z1 := ZH.out.kept K1
  have K2 := KH.out.trans K1
  have hne : w.heap.size + 1 < w1.heap.size := Z1.lt
  clear x0 x1 x2
  have d0 := Z1.cell 0
  have d1 := Z1.cell 1
  have d2 := Z1.cell 2
  have d3 := Z1.cell 3
  have d4 := Z1.cell 4
  have d5 := Z1.cell 5
  have df0 := Z1.frozen 0
  have df1 := Z1.frozen 1
  have df2 := Z1.frozen 2
  have df3 := Z1.frozen 3
  have df4 := Z1.frozen 4
  have df5 := Z1.frozen 5
  go_wp2_with fail
  refine bodyPost_ret (v := wnV Y) ?_ rfl ⟨rfl, ?_⟩
  · have r := (six_blk (x := zero) (y := Y) Z1).kept ((Kept.refl _).alloc (.cells (wnA Y) 23))
    have r0 := r.cell 0
    have r1 := r.cell 1
    have r2 := r.cell 2
    have r3 := r.cell 3
    have r4 := r.cell 4
    have r5 := r.cell 5
    simp [results, Try.f25, go_sem, r0, r1, r2, r3, r4, r5]
  · exact (kept_six K2 (Nat.le_succ _) _ _ _ _ _ _).alloc _
end Go.Proofs.Ytchnljebhbaghaa.Win
