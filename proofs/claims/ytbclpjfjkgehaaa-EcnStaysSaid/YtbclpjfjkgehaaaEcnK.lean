/-
  The law's works: the chapter's examples.
-/
import Derived.Test.YtbclpjfjkgehaaaEcnR
import Derived.Test.YtbclpjfjkgehaaaBox
import Derived.Deep.DeepCutAuto
namespace Go.Proofs.Ytbclpjfjkgehaaa.Ecn
open Go.RowKit EcnM Wd
set_option linter.unusedVariables false
set_option linter.unusedSimpArgs false

theorem five_but (W : World) (b : Nat) (v0 v1 v2 v3 v4 : Value) : But (fun k => k = b) W (((((W.setCell ⟨b, 0, none⟩ v0).setCell ⟨b, 1, none⟩ v1).setCell ⟨b, 2, none⟩ v2).setCell ⟨b, 3, none⟩ v3).setCell ⟨b, 4, none⟩ v4) :=
  (((((But.refl (fun k => k = b) W).setCell (p := ⟨b, 0, none⟩) rfl _).setCell (p := ⟨b, 1, none⟩) rfl _).setCell (p := ⟨b, 2, none⟩) rfl _).setCell (p := ⟨b, 3, none⟩) rfl _).setCell (p := ⟨b, 4, none⟩) rfl _
open Bxs
theorem five_row {cs : Array Value} (hs : cs.size = 5) (y : Cn) : (((((cs.setIfInBounds 0 (.int .i64 y.s)).setIfInBounds 1 (.int .i64 y.a)).setIfInBounds 2 (.int .i64 y.b)).setIfInBounds 3 (.int .i64 y.c)).setIfInBounds 4 (.bool y.f)) = cnA y := by
  obtain ⟨l⟩ := cs
  change l.length = 5 at hs
  match l, hs with
  | [a0, a1, a2, a3, a4], _ => rfl
theorem five {w W : World} {L : List Ent} (h : Bx w L W) (i : Nat) {b : Nat} {t : TypeId} {cs : Array Value} (hi : L[i]? = some (b, t, cs)) (hs : cs.size = 5) (y : Cn) : Bx w (L.set i (b, t, cnA y)) (((((W.setCell ⟨b, 0, none⟩ (.int .i64 y.s)).setCell ⟨b, 1, none⟩ (.int .i64 y.a)).setCell ⟨b, 2, none⟩ (.int .i64 y.b)).setCell ⟨b, 3, none⟩ (.int .i64 y.c)).setCell ⟨b, 4, none⟩ (.bool y.f)) :=
  h.set_ i hi (five_row hs y ▸ (((((h.get i hi).set_ 0 _).set_ 1 _).set_ 2 _).set_ 3 _).set_ 4 _) (five_but W b _ _ _ _ _)
set_option maxRecDepth 100000 in
set_option maxHeartbeats 4000000 in
theorem works_any (w : World) : Calls Try.prog 15 #[] w (Gives (.bool true) w) := by
  have q0 := Lib.hid (fun W => marked_any ⟨0, 0, 0, 0, false⟩ W)
  rw [show mkW ⟨0, 0, 0, 0, false⟩ = ⟨1, 0, 0, 0, false⟩ by decide, show mkE ⟨0, 0, 0, 0, false⟩ = 0 by decide] at q0
  have q1 := Lib.hid (fun W => marked_any ⟨1, 0, 0, 0, false⟩ W)
  rw [show mkW ⟨1, 0, 0, 0, false⟩ = ⟨2, 0, 0, 0, false⟩ by decide, show mkE ⟨1, 0, 0, 0, false⟩ = 0 by decide] at q1
  have q2 := Lib.hid (fun W => marked_any ⟨2, 0, 0, 0, false⟩ W)
  rw [show mkW ⟨2, 0, 0, 0, false⟩ = ⟨3, 0, 0, 0, false⟩ by decide, show mkE ⟨2, 0, 0, 0, false⟩ = 0 by decide] at q2
  have q3 := Lib.hid (fun W => marked_any ⟨3, 2, 0, 1, false⟩ W)
  rw [show mkW ⟨3, 2, 0, 1, false⟩ = ⟨4, 2, 0, 1, false⟩ by decide, show mkE ⟨3, 2, 0, 1, false⟩ = 0 by decide] at q3
  have a0 := Lib.hid (fun W => acked_any ⟨3, 0, 0, 0, false⟩ noR ⟨true, 2, 0, 1⟩ 3 W)
  rw [show akW ⟨3, 0, 0, 0, false⟩ ⟨true, 2, 0, 1⟩ 3 = ⟨3, 2, 0, 1, false⟩ by decide, show akB ⟨3, 0, 0, 0, false⟩ ⟨true, 2, 0, 1⟩ 3 = true by decide, show akE ⟨3, 0, 0, 0, false⟩ ⟨true, 2, 0, 1⟩ 3 = 0 by decide] at a0
  have a1 := Lib.hid (fun W => acked_any ⟨4, 2, 0, 1, false⟩ noR ⟨true, 3, 0, 1⟩ 1 W)
  rw [show akW ⟨4, 2, 0, 1, false⟩ ⟨true, 3, 0, 1⟩ 1 = ⟨4, 3, 0, 1, false⟩ by decide, show akB ⟨4, 2, 0, 1, false⟩ ⟨true, 3, 0, 1⟩ 1 = false by decide, show akE ⟨4, 2, 0, 1, false⟩ ⟨true, 3, 0, 1⟩ 1 = 0 by decide] at a1
  have a2 := Lib.hid (fun W => acked_any ⟨4, 3, 0, 1, false⟩ noR ⟨true, 3, 0, 1⟩ 0 W)
  rw [show akW ⟨4, 3, 0, 1, false⟩ ⟨true, 3, 0, 1⟩ 0 = ⟨4, 3, 0, 1, false⟩ by decide, show akB ⟨4, 3, 0, 1, false⟩ ⟨true, 3, 0, 1⟩ 0 = false by decide, show akE ⟨4, 3, 0, 1, false⟩ ⟨true, 3, 0, 1⟩ 0 = 0 by decide] at a2
  have a3 := Lib.hid (fun W => acked_any ⟨4, 3, 0, 1, false⟩ noR ⟨true, 2, 0, 2⟩ 0 W)
  rw [show akW ⟨4, 3, 0, 1, false⟩ ⟨true, 2, 0, 2⟩ 0 = ⟨4, 3, 0, 1, true⟩ by decide, show akB ⟨4, 3, 0, 1, false⟩ ⟨true, 2, 0, 2⟩ 0 = false by decide, show akE ⟨4, 3, 0, 1, false⟩ ⟨true, 2, 0, 2⟩ 0 = 0 by decide] at a3
  have a4 := Lib.hid (fun W => acked_any ⟨4, 3, 0, 1, false⟩ noR ⟨false, 0, 0, 0⟩ 1 W)
  rw [show akW ⟨4, 3, 0, 1, false⟩ ⟨false, 0, 0, 0⟩ 1 = ⟨4, 3, 0, 1, true⟩ by decide, show akB ⟨4, 3, 0, 1, false⟩ ⟨false, 0, 0, 0⟩ 1 = false by decide, show akE ⟨4, 3, 0, 1, false⟩ ⟨false, 0, 0, 0⟩ 1 = 0 by decide] at a4
  have g0 := Lib.hid (fun W => frame_any 2 0 1 W)
  have g1 := Lib.hid (fun W => frame_any 3 0 1 W)
  have g2 := Lib.hid (fun W => frame_any 3 0 1 W)
  have g3 := Lib.hid (fun W => frame_any 2 0 2 W)
  have hg := guard_c
  have hg3 := guard_3
  have n4 : ∀ w, (binOp .neq 24 (cnV ⟨3, 2, 0, 1, false⟩) (cnV ⟨3, 2, 0, 1, false⟩)).run Try.prog w = .ok (.bool false) w := fun w => by rw [neq_cn]; simp
  have e4 : ∀ w, (binOp .eql 24 (cnV ⟨4, 3, 0, 1, false⟩) (cnV ⟨4, 3, 0, 1, false⟩)).run Try.prog w = .ok (.bool true) w := fun w => by rw [eql_cn]; simp
  have e3 : ∀ w, (binOp .eql 22 (thV 3 0 1) (thV 3 0 1)).run Try.prog w = .ok (.bool true) w := fun w => by rw [eql_3]; simp
  have D : Hid (Bx w [(w.heap.size, 24, zA)] (w.alloc (.cells zA 24))) := Lib.hid ((Bx.nil w).new _ _)
  go_enter Try.func15, Try.ntmps15
  go_wp2_with fail
  generalize w.alloc (.cells zA 24) = w1 at *
  generalize hb : w.heap.size = b at *
  clear hb
  have D : Hid (Bx w [(b, 24, cnA ⟨0, 0, 0, 0, false⟩)] w1) := D
  refine wp_loop_rounds 4 ?_
  rw [rounds_succ]
  have Bc := D.out.get 0 rfl
  have cc0 := Bc.cell 0
  have cc1 := Bc.cell 1
  have cc2 := Bc.cell 2
  have cc3 := Bc.cell 3
  have cc4 := Bc.cell 4
  have tc := Bc.lt
  clear Bc
  go_wp2_with fail
  clear cc0 cc1 cc2 cc3 cc4 tc
  refine (q0.out _).mono ?_
  rintro e w2 ⟨rfl, hk⟩
  have D := Lib.hid (D.out.on hk)
  clear hk
  have Bc := D.out.get 0 rfl
  have cc0 := Bc.cell 0
  have cc1 := Bc.cell 1
  have cc2 := Bc.cell 2
  have cc3 := Bc.cell 3
  have cc4 := Bc.cell 4
  have fc0 := Bc.frozen 0
  have fc1 := Bc.frozen 1
  have fc2 := Bc.frozen 2
  have fc3 := Bc.frozen 3
  have fc4 := Bc.frozen 4
  have tc := Bc.lt
  clear Bc
  go_wp2_with fail
  clear cc0 cc1 cc2 cc3 cc4 fc0 fc1 fc2 fc3 fc4 tc
  have D : Hid (Bx w [(b, 24, cnA ⟨1, 0, 0, 0, false⟩)] ((((((w2.setCell ⟨b, 0, none⟩ (.int .i64 1)).setCell ⟨b, 1, none⟩ (.int .i64 0)).setCell ⟨b, 2, none⟩ (.int .i64 0)).setCell ⟨b, 3, none⟩ (.int .i64 0)).setCell ⟨b, 4, none⟩ (.bool false)).alloc (.cells #[.int .i64 1, .int .i64 0, .int .i64 0, .int .i64 0, .bool false] 24))) := Lib.hid ((five D.out 0 rfl rfl ⟨1, 0, 0, 0, false⟩).on ((Kept.refl _).alloc (.cells #[.int .i64 1, .int .i64 0, .int .i64 0, .int .i64 0, .bool false] 24)))
  generalize (((((w2.setCell ⟨b, 0, none⟩ (.int .i64 1)).setCell ⟨b, 1, none⟩ (.int .i64 0)).setCell ⟨b, 2, none⟩ (.int .i64 0)).setCell ⟨b, 3, none⟩ (.int .i64 0)).setCell ⟨b, 4, none⟩ (.bool false)).alloc (.cells #[.int .i64 1, .int .i64 0, .int .i64 0, .int .i64 0, .bool false] 24) = w3 at *
  rw [rounds_succ]
  have Bc := D.out.get 0 rfl
  have cc0 := Bc.cell 0
  have cc1 := Bc.cell 1
  have cc2 := Bc.cell 2
  have cc3 := Bc.cell 3
  have cc4 := Bc.cell 4
  have tc := Bc.lt
  clear Bc
  go_wp2_with fail
  clear cc0 cc1 cc2 cc3 cc4 tc
  refine (q1.out _).mono ?_
  rintro e w4 ⟨rfl, hk⟩
  have D := Lib.hid (D.out.on hk)
  clear hk
  have Bc := D.out.get 0 rfl
  have cc0 := Bc.cell 0
  have cc1 := Bc.cell 1
  have cc2 := Bc.cell 2
  have cc3 := Bc.cell 3
  have cc4 := Bc.cell 4
  have fc0 := Bc.frozen 0
  have fc1 := Bc.frozen 1
  have fc2 := Bc.frozen 2
  have fc3 := Bc.frozen 3
  have fc4 := Bc.frozen 4
  have tc := Bc.lt
  clear Bc
  go_wp2_with fail
  clear cc0 cc1 cc2 cc3 cc4 fc0 fc1 fc2 fc3 fc4 tc
  have D : Hid (Bx w [(b, 24, cnA ⟨2, 0, 0, 0, false⟩)] ((((((w4.setCell ⟨b, 0, none⟩ (.int .i64 2)).setCell ⟨b, 1, none⟩ (.int .i64 0)).setCell ⟨b, 2, none⟩ (.int .i64 0)).setCell ⟨b, 3, none⟩ (.int .i64 0)).setCell ⟨b, 4, none⟩ (.bool false)).alloc (.cells #[.int .i64 2, .int .i64 0, .int .i64 0, .int .i64 0, .bool false] 24))) := Lib.hid ((five D.out 0 rfl rfl ⟨2, 0, 0, 0, false⟩).on ((Kept.refl _).alloc (.cells #[.int .i64 2, .int .i64 0, .int .i64 0, .int .i64 0, .bool false] 24)))
  generalize (((((w4.setCell ⟨b, 0, none⟩ (.int .i64 2)).setCell ⟨b, 1, none⟩ (.int .i64 0)).setCell ⟨b, 2, none⟩ (.int .i64 0)).setCell ⟨b, 3, none⟩ (.int .i64 0)).setCell ⟨b, 4, none⟩ (.bool false)).alloc (.cells #[.int .i64 2, .int .i64 0, .int .i64 0, .int .i64 0, .bool false] 24) = w5 at *
  rw [rounds_succ]
  have Bc := D.out.get 0 rfl
  have cc0 := Bc.cell 0
  have cc1 := Bc.cell 1
  have cc2 := Bc.cell 2
  have cc3 := Bc.cell 3
  have cc4 := Bc.cell 4
  have tc := Bc.lt
  clear Bc
  go_wp2_with fail
  clear cc0 cc1 cc2 cc3 cc4 tc
  refine (q2.out _).mono ?_
  rintro e w6 ⟨rfl, hk⟩
  have D := Lib.hid (D.out.on hk)
  clear hk
  have Bc := D.out.get 0 rfl
  have cc0 := Bc.cell 0
  have cc1 := Bc.cell 1
  have cc2 := Bc.cell 2
  have cc3 := Bc.cell 3
  have cc4 := Bc.cell 4
  have fc0 := Bc.frozen 0
  have fc1 := Bc.frozen 1
  have fc2 := Bc.frozen 2
  have fc3 := Bc.frozen 3
  have fc4 := Bc.frozen 4
  have tc := Bc.lt
  clear Bc
  go_wp2_with fail
  clear cc0 cc1 cc2 cc3 cc4 fc0 fc1 fc2 fc3 fc4 tc
  have D : Hid (Bx w [(b, 24, cnA ⟨3, 0, 0, 0, false⟩)] ((((((w6.setCell ⟨b, 0, none⟩ (.int .i64 3)).setCell ⟨b, 1, none⟩ (.int .i64 0)).setCell ⟨b, 2, none⟩ (.int .i64 0)).setCell ⟨b, 3, none⟩ (.int .i64 0)).setCell ⟨b, 4, none⟩ (.bool false)).alloc (.cells #[.int .i64 3, .int .i64 0, .int .i64 0, .int .i64 0, .bool false] 24))) := Lib.hid ((five D.out 0 rfl rfl ⟨3, 0, 0, 0, false⟩).on ((Kept.refl _).alloc (.cells #[.int .i64 3, .int .i64 0, .int .i64 0, .int .i64 0, .bool false] 24)))
  generalize (((((w6.setCell ⟨b, 0, none⟩ (.int .i64 3)).setCell ⟨b, 1, none⟩ (.int .i64 0)).setCell ⟨b, 2, none⟩ (.int .i64 0)).setCell ⟨b, 3, none⟩ (.int .i64 0)).setCell ⟨b, 4, none⟩ (.bool false)).alloc (.cells #[.int .i64 3, .int .i64 0, .int .i64 0, .int .i64 0, .bool false] 24) = w7 at *
  rw [rounds_succ]
  go_wp2_with fail
  go_cut [5, 6] (fun s5 s6 wx => s5 = .bool true ∧ s6 = .int .i64 0 ∧ Hid (Bx w [(b, 24, cnA ⟨3, 2, 0, 1, false⟩)] wx))
  case first =>
    have D : Hid (Bx w [(b, 24, cnA ⟨3, 0, 0, 0, false⟩)] w7.drew) := Lib.hid (D.out.on (Kept.refl _).drew)
    have Bc := D.out.get 0 rfl
    have cc0 := Bc.cell 0
    have cc1 := Bc.cell 1
    have cc2 := Bc.cell 2
    have cc3 := Bc.cell 3
    have cc4 := Bc.cell 4
    have fc0 := Bc.frozen 0
    have fc1 := Bc.frozen 1
    have fc2 := Bc.frozen 2
    have fc3 := Bc.frozen 3
    have fc4 := Bc.frozen 4
    have tc := Bc.lt
    clear Bc
    go_region_with ((first
      | (go_at_call 17; (with_reducible refine (g0.out _).mono ?_); rintro e w' ⟨rfl, hk⟩; have D := Lib.hid (D.out.on hk); clear hk; have B := D.out.get 0 rfl; have cc0 := B.cell 0; have cc1 := B.cell 1; have cc2 := B.cell 2; have cc3 := B.cell 3; have cc4 := B.cell 4; have fc0 := B.frozen 0; have fc1 := B.frozen 1; have fc2 := B.frozen 2; have fc3 := B.frozen 3; have fc4 := B.frozen 4; have tc := B.lt; clear B)
      | (go_at_call 11; (with_reducible refine (a0.out _).mono ?_); rintro e w' ⟨rfl, hk⟩; have D := Lib.hid (D.out.on hk); clear hk; have B := D.out.get 0 rfl; have cc0 := B.cell 0; have cc1 := B.cell 1; have cc2 := B.cell 2; have cc3 := B.cell 3; have cc4 := B.cell 4; have fc0 := B.frozen 0; have fc1 := B.frozen 1; have fc2 := B.frozen 2; have fc3 := B.frozen 3; have fc4 := B.frozen 4; have tc := B.lt; clear B)))
    all_goals
      go_wp2_with fail
      go_meet
      exact ⟨rfl, rfl, Lib.hid (five D.out 0 rfl rfl ⟨3, 2, 0, 1, false⟩)⟩
  case rest =>
  clear D
  obtain ⟨rfl, rfl, D⟩ := hcut
  have Bc := D.out.get 0 rfl
  have cc0 := Bc.cell 0
  have cc1 := Bc.cell 1
  have cc2 := Bc.cell 2
  have cc3 := Bc.cell 3
  have cc4 := Bc.cell 4
  have tc := Bc.lt
  clear Bc
  go_wp2_with fail
  clear cc0 cc1 cc2 cc3 cc4 tc
  refine (q3.out _).mono ?_
  rintro e w9 ⟨rfl, hk⟩
  have D := Lib.hid (D.out.on hk)
  clear hk
  go_wp2_with fail
  have D : Hid (Bx w [(w9.heap.size, 24, cnA ⟨4, 2, 0, 1, false⟩)] (w9.alloc (.cells #[.int .i64 4, .int .i64 2, .int .i64 0, .int .i64 1, .bool false] 24))) := Lib.hid ((Bx.start D.out.K).new _ _)
  generalize w9.alloc (.cells #[.int .i64 4, .int .i64 2, .int .i64 0, .int .i64 1, .bool false] 24) = w10 at *
  generalize hd : w9.heap.size = d at *
  clear hd
  have D : Hid (Bx w [(d, 24, cnA ⟨4, 2, 0, 1, false⟩)] w10) := D
  go_cut [9, 10] (fun s5 s6 wx => s5 = .bool false ∧ s6 = .int .i64 0 ∧ Hid (Bx w [(d, 24, cnA ⟨4, 3, 0, 1, false⟩)] wx))
  case first =>
    have D : Hid (Bx w [(d, 24, cnA ⟨4, 2, 0, 1, false⟩)] w10.drew) := Lib.hid (D.out.on (Kept.refl _).drew)
    have Bd := D.out.get 0 rfl
    have cd0 := Bd.cell 0
    have cd1 := Bd.cell 1
    have cd2 := Bd.cell 2
    have cd3 := Bd.cell 3
    have cd4 := Bd.cell 4
    have fd0 := Bd.frozen 0
    have fd1 := Bd.frozen 1
    have fd2 := Bd.frozen 2
    have fd3 := Bd.frozen 3
    have fd4 := Bd.frozen 4
    have td := Bd.lt
    clear Bd
    go_region_with ((first
      | (go_at_call 17; (with_reducible refine (g1.out _).mono ?_); rintro e w' ⟨rfl, hk⟩; have D := Lib.hid (D.out.on hk); clear hk; have B := D.out.get 0 rfl; have cd0 := B.cell 0; have cd1 := B.cell 1; have cd2 := B.cell 2; have cd3 := B.cell 3; have cd4 := B.cell 4; have fd0 := B.frozen 0; have fd1 := B.frozen 1; have fd2 := B.frozen 2; have fd3 := B.frozen 3; have fd4 := B.frozen 4; have td := B.lt; clear B)
      | (go_at_call 11; (with_reducible refine (a1.out _).mono ?_); rintro e w' ⟨rfl, hk⟩; have D := Lib.hid (D.out.on hk); clear hk; have B := D.out.get 0 rfl; have cd0 := B.cell 0; have cd1 := B.cell 1; have cd2 := B.cell 2; have cd3 := B.cell 3; have cd4 := B.cell 4; have fd0 := B.frozen 0; have fd1 := B.frozen 1; have fd2 := B.frozen 2; have fd3 := B.frozen 3; have fd4 := B.frozen 4; have td := B.lt; clear B)))
    all_goals
      go_wp2_with fail
      go_meet
      exact ⟨rfl, rfl, Lib.hid (five D.out 0 rfl rfl ⟨4, 3, 0, 1, false⟩)⟩
  case rest =>
  clear D
  obtain ⟨rfl, rfl, D⟩ := hcut
  go_wp2_with fail
  go_cut [11, 12, 13] (fun s11 s12 s13 wx => ∃ g, s11 = .pointer (some ⟨g, 0, none⟩) ∧ s12 = .bool false ∧ s13 = .int .i64 0 ∧ Hid (Bx w ([(d, 24, cnA ⟨4, 3, 0, 1, false⟩)] ++ [(g, 24, cnA ⟨4, 3, 0, 1, false⟩)]) wx))
  case first =>
    have D0 := D
    have D : Hid (Bx w [(d, 24, cnA ⟨4, 3, 0, 1, false⟩)] wc.drew) := Lib.hid (D.out.on (Kept.refl _).drew)
    have HS : Hid (∀ V, Bx w [(d, 24, cnA ⟨4, 3, 0, 1, false⟩)] V → (V.cell? ⟨d, 0, none⟩ = some (.int .i64 4) ∧ V.cell? ⟨d, 1, none⟩ = some (.int .i64 3) ∧ V.cell? ⟨d, 2, none⟩ = some (.int .i64 0) ∧ V.cell? ⟨d, 3, none⟩ = some (.int .i64 1) ∧ V.cell? ⟨d, 4, none⟩ = some (.bool false))) := Lib.hid (fun V h => ⟨(h.get 0 rfl).cell 0, (h.get 0 rfl).cell 1, (h.get 0 rfl).cell 2, (h.get 0 rfl).cell 3, (h.get 0 rfl).cell 4⟩)
    have HN : Hid (∀ V e, Bx w ([(d, 24, cnA ⟨4, 3, 0, 1, false⟩)] ++ [e]) V → (V.cell? ⟨d, 0, none⟩ = some (.int .i64 4) ∧ V.cell? ⟨d, 1, none⟩ = some (.int .i64 3) ∧ V.cell? ⟨d, 2, none⟩ = some (.int .i64 0) ∧ V.cell? ⟨d, 3, none⟩ = some (.int .i64 1) ∧ V.cell? ⟨d, 4, none⟩ = some (.bool false))) := Lib.hid (fun V e h => ⟨(h.get 0 rfl).cell 0, (h.get 0 rfl).cell 1, (h.get 0 rfl).cell 2, (h.get 0 rfl).cell 3, (h.get 0 rfl).cell 4⟩)
    have HF : Hid (∀ V g, Bx w ([(d, 24, cnA ⟨4, 3, 0, 1, false⟩)] ++ [(g, 24, zA)]) V → Bx w ([(d, 24, cnA ⟨4, 3, 0, 1, false⟩)] ++ [(g, 24, cnA ⟨4, 3, 0, 1, false⟩)]) (((((V.setCell ⟨g, 0, none⟩ (.int .i64 4)).setCell ⟨g, 1, none⟩ (.int .i64 3)).setCell ⟨g, 2, none⟩ (.int .i64 0)).setCell ⟨g, 3, none⟩ (.int .i64 1)).setCell ⟨g, 4, none⟩ (.bool false))) := Lib.hid (fun V g h => five h 1 rfl rfl ⟨4, 3, 0, 1, false⟩)
    go_region_held3 (fun V => V.cell? ⟨d, 0, none⟩ = some (.int .i64 4) ∧ V.cell? ⟨d, 1, none⟩ = some (.int .i64 3) ∧ V.cell? ⟨d, 2, none⟩ = some (.int .i64 0) ∧ V.cell? ⟨d, 3, none⟩ = some (.int .i64 1) ∧ V.cell? ⟨d, 4, none⟩ = some (.bool false))
      (first | with_reducible exact HN.out _ _ (HF.out _ _ N.out) | with_reducible exact HN.out _ _ N.out | with_reducible exact HS.out _ D.out | with_reducible exact HN.out _ _ (D.out.new _ _))
      (first
        | (go_at_call 17; (with_reducible refine (g2.out _).mono ?_); rintro e w' ⟨rfl, hk⟩; have N := Lib.hid (N.out.on hk); clear hk; have B := N.out.get 1 rfl; have z0 := B.cell 0; have y0 := B.frozen 0; have z1 := B.cell 1; have y1 := B.frozen 1; have z2 := B.cell 2; have y2 := B.frozen 2; have z3 := B.cell 3; have y3 := B.frozen 3; have z4 := B.cell 4; have y4 := B.frozen 4; have tz := B.lt; clear B)
        | (go_at_call 17; (with_reducible refine (g2.out (wc.alloc (.cells zA 24)).drew).mono ?_); rintro e w' ⟨rfl, hk⟩; have N := Lib.hid (((D0.out.new 24 zA).on (Kept.refl _).drew).on hk); clear hk; have B := N.out.get 1 rfl; have z0 := B.cell 0; have y0 := B.frozen 0; have z1 := B.cell 1; have y1 := B.frozen 1; have z2 := B.cell 2; have y2 := B.frozen 2; have z3 := B.cell 3; have y3 := B.frozen 3; have z4 := B.cell 4; have y4 := B.frozen 4; have tz := B.lt; clear B)
        | (go_at_call 17; (with_reducible refine (g2.out (World.alloc _ (.cells zA 24))).mono ?_); rintro e w' ⟨rfl, hk⟩; have N := Lib.hid ((D.out.new 24 zA).on hk); clear hk; have B := N.out.get 1 rfl; have z0 := B.cell 0; have y0 := B.frozen 0; have z1 := B.cell 1; have y1 := B.frozen 1; have z2 := B.cell 2; have y2 := B.frozen 2; have z3 := B.cell 3; have y3 := B.frozen 3; have z4 := B.cell 4; have y4 := B.frozen 4; have tz := B.lt; clear B)
        | (go_at_call 17; (with_reducible refine (g2.out _).mono ?_); rintro e w' ⟨rfl, hk⟩; have D := Lib.hid (D.out.on hk); clear hk)
        | (go_at_call 11; (with_reducible refine (a2.out _).mono ?_); rintro e w' ⟨rfl, hk⟩; have N := Lib.hid (N.out.on hk); clear hk; have B := N.out.get 1 rfl; have z0 := B.cell 0; have y0 := B.frozen 0; have z1 := B.cell 1; have y1 := B.frozen 1; have z2 := B.cell 2; have y2 := B.frozen 2; have z3 := B.cell 3; have y3 := B.frozen 3; have z4 := B.cell 4; have y4 := B.frozen 4; have tz := B.lt; clear B)
        | (go_at_call 11; (with_reducible refine (a2.out (World.alloc _ (.cells zA 24))).mono ?_); rintro e w' ⟨rfl, hk⟩; have N := Lib.hid ((D.out.new 24 zA).on hk); clear hk; have B := N.out.get 1 rfl; have z0 := B.cell 0; have y0 := B.frozen 0; have z1 := B.cell 1; have y1 := B.frozen 1; have z2 := B.cell 2; have y2 := B.frozen 2; have z3 := B.cell 3; have y3 := B.frozen 3; have z4 := B.cell 4; have y4 := B.frozen 4; have tz := B.lt; clear B)
        | (go_at_call 11; (with_reducible refine (a2.out _).mono ?_); rintro e w' ⟨rfl, hk⟩; have D := Lib.hid (D.out.on hk); clear hk))
    all_goals
      go_wp2_with fail
      go_meet
      first
        | exact ⟨_, rfl, rfl, rfl, Lib.hid (HF.out _ _ N.out)⟩
        | exact ⟨_, rfl, rfl, rfl, Lib.hid (D.out.new 24 (cnA ⟨4, 3, 0, 1, false⟩))⟩
  case rest =>
  clear D
  obtain ⟨xn, rfl, rfl, rfl, D⟩ := hcut
  have D : Hid (Bx w [(d, 24, cnA ⟨4, 3, 0, 1, false⟩), (xn, 24, cnA ⟨4, 3, 0, 1, false⟩)] wc) := D
  go_wp2_with fail
  go_cut [14, 15, 16] (fun s14 s15 s16 wx => ∃ g, s14 = .pointer (some ⟨g, 0, none⟩) ∧ s15 = .bool false ∧ s16 = .int .i64 0 ∧ Hid (Bx w ([(d, 24, cnA ⟨4, 3, 0, 1, false⟩), (xn, 24, cnA ⟨4, 3, 0, 1, false⟩)] ++ [(g, 24, cnA ⟨4, 3, 0, 1, true⟩)]) wx))
  case first =>
    have D0 := D
    have D : Hid (Bx w [(d, 24, cnA ⟨4, 3, 0, 1, false⟩), (xn, 24, cnA ⟨4, 3, 0, 1, false⟩)] wc.drew) := Lib.hid (D.out.on (Kept.refl _).drew)
    have HS : Hid (∀ V, Bx w [(d, 24, cnA ⟨4, 3, 0, 1, false⟩), (xn, 24, cnA ⟨4, 3, 0, 1, false⟩)] V → (V.cell? ⟨d, 0, none⟩ = some (.int .i64 4) ∧ V.cell? ⟨d, 1, none⟩ = some (.int .i64 3) ∧ V.cell? ⟨d, 2, none⟩ = some (.int .i64 0) ∧ V.cell? ⟨d, 3, none⟩ = some (.int .i64 1) ∧ V.cell? ⟨d, 4, none⟩ = some (.bool false))) := Lib.hid (fun V h => ⟨(h.get 0 rfl).cell 0, (h.get 0 rfl).cell 1, (h.get 0 rfl).cell 2, (h.get 0 rfl).cell 3, (h.get 0 rfl).cell 4⟩)
    have HN : Hid (∀ V e, Bx w ([(d, 24, cnA ⟨4, 3, 0, 1, false⟩), (xn, 24, cnA ⟨4, 3, 0, 1, false⟩)] ++ [e]) V → (V.cell? ⟨d, 0, none⟩ = some (.int .i64 4) ∧ V.cell? ⟨d, 1, none⟩ = some (.int .i64 3) ∧ V.cell? ⟨d, 2, none⟩ = some (.int .i64 0) ∧ V.cell? ⟨d, 3, none⟩ = some (.int .i64 1) ∧ V.cell? ⟨d, 4, none⟩ = some (.bool false))) := Lib.hid (fun V e h => ⟨(h.get 0 rfl).cell 0, (h.get 0 rfl).cell 1, (h.get 0 rfl).cell 2, (h.get 0 rfl).cell 3, (h.get 0 rfl).cell 4⟩)
    have HF : Hid (∀ V g, Bx w ([(d, 24, cnA ⟨4, 3, 0, 1, false⟩), (xn, 24, cnA ⟨4, 3, 0, 1, false⟩)] ++ [(g, 24, zA)]) V → Bx w ([(d, 24, cnA ⟨4, 3, 0, 1, false⟩), (xn, 24, cnA ⟨4, 3, 0, 1, false⟩)] ++ [(g, 24, cnA ⟨4, 3, 0, 1, true⟩)]) (((((V.setCell ⟨g, 0, none⟩ (.int .i64 4)).setCell ⟨g, 1, none⟩ (.int .i64 3)).setCell ⟨g, 2, none⟩ (.int .i64 0)).setCell ⟨g, 3, none⟩ (.int .i64 1)).setCell ⟨g, 4, none⟩ (.bool true))) := Lib.hid (fun V g h => five h 2 rfl rfl ⟨4, 3, 0, 1, true⟩)
    go_region_held3 (fun V => V.cell? ⟨d, 0, none⟩ = some (.int .i64 4) ∧ V.cell? ⟨d, 1, none⟩ = some (.int .i64 3) ∧ V.cell? ⟨d, 2, none⟩ = some (.int .i64 0) ∧ V.cell? ⟨d, 3, none⟩ = some (.int .i64 1) ∧ V.cell? ⟨d, 4, none⟩ = some (.bool false))
      (first | with_reducible exact HN.out _ _ (HF.out _ _ N.out) | with_reducible exact HN.out _ _ N.out | with_reducible exact HS.out _ D.out | with_reducible exact HN.out _ _ (D.out.new _ _))
      (first
        | (go_at_call 17; (with_reducible refine (g3.out _).mono ?_); rintro e w' ⟨rfl, hk⟩; have N := Lib.hid (N.out.on hk); clear hk; have B := N.out.get 2 rfl; have z0 := B.cell 0; have y0 := B.frozen 0; have z1 := B.cell 1; have y1 := B.frozen 1; have z2 := B.cell 2; have y2 := B.frozen 2; have z3 := B.cell 3; have y3 := B.frozen 3; have z4 := B.cell 4; have y4 := B.frozen 4; have tz := B.lt; clear B)
        | (go_at_call 17; (with_reducible refine (g3.out (wc.alloc (.cells zA 24)).drew).mono ?_); rintro e w' ⟨rfl, hk⟩; have N := Lib.hid (((D0.out.new 24 zA).on (Kept.refl _).drew).on hk); clear hk; have B := N.out.get 2 rfl; have z0 := B.cell 0; have y0 := B.frozen 0; have z1 := B.cell 1; have y1 := B.frozen 1; have z2 := B.cell 2; have y2 := B.frozen 2; have z3 := B.cell 3; have y3 := B.frozen 3; have z4 := B.cell 4; have y4 := B.frozen 4; have tz := B.lt; clear B)
        | (go_at_call 17; (with_reducible refine (g3.out (World.alloc _ (.cells zA 24))).mono ?_); rintro e w' ⟨rfl, hk⟩; have N := Lib.hid ((D.out.new 24 zA).on hk); clear hk; have B := N.out.get 2 rfl; have z0 := B.cell 0; have y0 := B.frozen 0; have z1 := B.cell 1; have y1 := B.frozen 1; have z2 := B.cell 2; have y2 := B.frozen 2; have z3 := B.cell 3; have y3 := B.frozen 3; have z4 := B.cell 4; have y4 := B.frozen 4; have tz := B.lt; clear B)
        | (go_at_call 17; (with_reducible refine (g3.out _).mono ?_); rintro e w' ⟨rfl, hk⟩; have D := Lib.hid (D.out.on hk); clear hk)
        | (go_at_call 11; (with_reducible refine (a3.out _).mono ?_); rintro e w' ⟨rfl, hk⟩; have N := Lib.hid (N.out.on hk); clear hk; have B := N.out.get 2 rfl; have z0 := B.cell 0; have y0 := B.frozen 0; have z1 := B.cell 1; have y1 := B.frozen 1; have z2 := B.cell 2; have y2 := B.frozen 2; have z3 := B.cell 3; have y3 := B.frozen 3; have z4 := B.cell 4; have y4 := B.frozen 4; have tz := B.lt; clear B)
        | (go_at_call 11; (with_reducible refine (a3.out (World.alloc _ (.cells zA 24))).mono ?_); rintro e w' ⟨rfl, hk⟩; have N := Lib.hid ((D.out.new 24 zA).on hk); clear hk; have B := N.out.get 2 rfl; have z0 := B.cell 0; have y0 := B.frozen 0; have z1 := B.cell 1; have y1 := B.frozen 1; have z2 := B.cell 2; have y2 := B.frozen 2; have z3 := B.cell 3; have y3 := B.frozen 3; have z4 := B.cell 4; have y4 := B.frozen 4; have tz := B.lt; clear B)
        | (go_at_call 11; (with_reducible refine (a3.out _).mono ?_); rintro e w' ⟨rfl, hk⟩; have D := Lib.hid (D.out.on hk); clear hk))
    all_goals
      go_wp2_with fail
      go_meet
      first
        | exact ⟨_, rfl, rfl, rfl, Lib.hid (HF.out _ _ N.out)⟩
        | exact ⟨_, rfl, rfl, rfl, Lib.hid (D.out.new 24 (cnA ⟨4, 3, 0, 1, true⟩))⟩
  case rest =>
  clear D
  obtain ⟨yn, rfl, rfl, rfl, D⟩ := hcut
  have D : Hid (Bx w [(d, 24, cnA ⟨4, 3, 0, 1, false⟩), (xn, 24, cnA ⟨4, 3, 0, 1, false⟩), (yn, 24, cnA ⟨4, 3, 0, 1, true⟩)] wc) := D
  have Bd := D.out.get 0 rfl
  have cd0 := Bd.cell 0
  have cd1 := Bd.cell 1
  have cd2 := Bd.cell 2
  have cd3 := Bd.cell 3
  have cd4 := Bd.cell 4
  have td := Bd.lt
  clear Bd
  go_wp2_with fail
  clear cd0 cd1 cd2 cd3 cd4 td
  refine (a4.out _).mono ?_
  rintro e w20 ⟨rfl, hk⟩
  have D := Lib.hid (D.out.on hk)
  clear hk
  have Bd := D.out.get 0 rfl
  have cd0 := Bd.cell 0
  have cd1 := Bd.cell 1
  have cd2 := Bd.cell 2
  have cd3 := Bd.cell 3
  have cd4 := Bd.cell 4
  have td := Bd.lt
  clear Bd
  have Bx := D.out.get 1 rfl
  have cx0 := Bx.cell 0
  have cx1 := Bx.cell 1
  have cx2 := Bx.cell 2
  have cx3 := Bx.cell 3
  have cx4 := Bx.cell 4
  have tx := Bx.lt
  clear Bx
  have By := D.out.get 2 rfl
  have cy0 := By.cell 0
  have cy1 := By.cell 1
  have cy2 := By.cell 2
  have cy3 := By.cell 3
  have cy4 := By.cell 4
  have ty := By.lt
  clear By
  have KK := Lib.hid D.out.K
  clear D
  go_wp2_with fail
  go_ret
  exact ⟨rfl, KK.out.alloc _⟩
end Go.Proofs.Ytbclpjfjkgehaaa.Ecn
