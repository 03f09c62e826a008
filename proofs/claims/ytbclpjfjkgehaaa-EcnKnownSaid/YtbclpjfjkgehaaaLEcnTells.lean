/-
  The law EcnTells: Check, Marked and Acked answer as the document does.
-/
import Derived.Test.YtbclpjfjkgehaaaEcnK
namespace Go.Proofs.Ytbclpjfjkgehaaa.Law
open Go.RowKit EcnM Wd Ecn Bxs
set_option linter.unusedVariables false
set_option linter.unusedSimpArgs false

set_option maxRecDepth 100000 in
set_option maxHeartbeats 4000000 in
theorem tells_any (C : Cn) (r : Rs) (y : Fr) (n : Int) (w : World) : Calls Try.prog 3 #[cnV C, akV r y, .int .i64 n] w fun e w' => e = .returned (.bool true) ∧ Kept w w' := by
  have k1 := Lib.hid (fun W => marked_any C W)
  have k2 := Lib.hid (fun W => rmarked_any C W)
  have k3 := Lib.hid (fun W => acked_any C r y n W)
  have k4 := Lib.hid (fun W => racked_any C r y n W)
  have k5 := Lib.hid (fun W => check_any C W)
  have k6 := Lib.hid (fun W => rcheck_any C W)
  have ko := Lib.hid (fun W => own_any C W)
  obtain ⟨M, hM⟩ : ∃ M, mkW C = M := ⟨_, rfl⟩
  obtain ⟨eM, hE⟩ : ∃ M, mkE C = M := ⟨_, rfl⟩
  rw [hM, hE] at k1 k2
  clear hM hE
  obtain ⟨X, hX⟩ : ∃ M, akW C y n = M := ⟨_, rfl⟩
  obtain ⟨bX, hB⟩ : ∃ M, akB C y n = M := ⟨_, rfl⟩
  obtain ⟨eX, hE⟩ : ∃ M, akE C y n = M := ⟨_, rfl⟩
  rw [hX, hB, hE] at k3 k4
  clear hX hB hE
  obtain ⟨cC, hC⟩ : ∃ M, chk C = M := ⟨_, rfl⟩
  rw [hC] at k5 k6
  clear hC
  have kM := Lib.hid (fun W => own_any M W)
  have kX := Lib.hid (fun W => own_any X W)
  have hg := guard_r
  have n1 : ∀ w, (binOp .eql 31 (cnV M) (cnV M)).run Try.prog w = .ok (.bool true) w := fun w => by rw [eql_rc]; simp
  have n2 : ∀ w, (binOp .eql 31 (cnV X) (cnV X)).run Try.prog w = .ok (.bool true) w := fun w => by rw [eql_rc]; simp
  obtain ⟨w1, hW, D0⟩ : ∃ W, W = ((w.alloc (.cells (cnA C) 24)).alloc (.cells (akA r y) 27)) ∧ Bx w [(w.heap.size, 24, cnA C), (w.heap.size + 1, 27, akA r y)] W := ⟨_, rfl, Bx.two _ _ _ _ _⟩
  have D := Lib.hid D0
  clear D0
  have Bc := D.out.get 0 rfl
  have cc0 := Bc.cell 0
  have cc1 := Bc.cell 1
  have cc2 := Bc.cell 2
  have cc3 := Bc.cell 3
  have cc4 := Bc.cell 4
  have tc := Bc.lt
  clear Bc
  go_enter Try.func3, Try.ntmps3
  go_wp2_with fail
  rw [← hW]
  clear hW
  clear cc0 cc1 cc2 cc3 cc4 tc
  generalize w.heap.size = bc at *
  generalize bc + 1 = ba at *
  refine (k1.out _).mono ?_
  rintro e w2 ⟨rfl, hk⟩
  have D := Lib.hid (D.out.on hk)
  clear hk
  have Bc := D.out.get 0 rfl
  have cc0 := Bc.cell 0
  have cc1 := Bc.cell 1
  have cc2 := Bc.cell 2
  have cc3 := Bc.cell 3
  have cc4 := Bc.cell 4
  have tc := Bc.lt
  clear Bc
  go_wp2_with fail
  clear cc0 cc1 cc2 cc3 cc4 tc
  have D : Hid (Bx w ([(bc, 24, cnA C), (ba, 27, akA r y)] ++ [(w2.heap.size, 24, cnA M)]) (w2.alloc (.cells #[.int .i64 M.s, .int .i64 M.a, .int .i64 M.b, .int .i64 M.c, .bool M.f] 24))) := Lib.hid (D.out.new _ _)
  generalize w2.alloc (.cells #[.int .i64 M.s, .int .i64 M.a, .int .i64 M.b, .int .i64 M.c, .bool M.f] 24) = w3 at *
  generalize w2.heap.size = dn at *
  have D : Hid (Bx w [(bc, 24, cnA C), (ba, 27, akA r y), (dn, 24, cnA M)] w3) := D
  refine (ko.out _).mono ?_
  rintro e w4 ⟨rfl, hk⟩
  have D := Lib.hid (D.out.on hk)
  clear hk
  go_wp2_with fail
  refine (k2.out _).mono ?_
  rintro e w5 ⟨rfl, hk⟩
  have D := Lib.hid (D.out.on hk)
  clear hk
  have Bc := D.out.get 0 rfl
  have cc0 := Bc.cell 0
  have cc1 := Bc.cell 1
  have cc2 := Bc.cell 2
  have cc3 := Bc.cell 3
  have cc4 := Bc.cell 4
  have tc := Bc.lt
  clear Bc
  have Ba := D.out.get 1 rfl
  have ca0 := Ba.cell 0
  have ca1 := Ba.cell 1
  have ca2 := Ba.cell 2
  have ca3 := Ba.cell 3
  have ca4 := Ba.cell 4
  have ca5 := Ba.cell 5
  have ta := Ba.lt
  clear Ba
  go_wp2_with fail
  clear cc0 cc1 cc2 cc3 cc4 tc
  clear ca0 ca1 ca2 ca3 ca4 ca5 ta
  have D : Hid (Bx w ([(bc, 24, cnA C), (ba, 27, akA r y), (dn, 24, cnA M)] ++ [(w5.heap.size, 31, cnA M)]) (w5.alloc (.cells #[.int .i64 M.s, .int .i64 M.a, .int .i64 M.b, .int .i64 M.c, .bool M.f] 31))) := Lib.hid (D.out.new _ _)
  generalize w5.alloc (.cells #[.int .i64 M.s, .int .i64 M.a, .int .i64 M.b, .int .i64 M.c, .bool M.f] 31) = w6 at *
  generalize w5.heap.size = mn at *
  have D : Hid (Bx w [(bc, 24, cnA C), (ba, 27, akA r y), (dn, 24, cnA M), (mn, 31, cnA M)] w6) := D
  refine (k3.out _).mono ?_
  rintro e w7 ⟨rfl, hk⟩
  have D := Lib.hid (D.out.on hk)
  clear hk
  go_wp2_with fail
  have D : Hid (Bx w ([(bc, 24, cnA C), (ba, 27, akA r y), (dn, 24, cnA M), (mn, 31, cnA M)] ++ [(w7.heap.size, 24, cnA X)]) (w7.alloc (.cells #[.int .i64 X.s, .int .i64 X.a, .int .i64 X.b, .int .i64 X.c, .bool X.f] 24))) := Lib.hid (D.out.new _ _)
  generalize w7.alloc (.cells #[.int .i64 X.s, .int .i64 X.a, .int .i64 X.b, .int .i64 X.c, .bool X.f] 24) = w8 at *
  generalize w7.heap.size = xn at *
  have D : Hid (Bx w [(bc, 24, cnA C), (ba, 27, akA r y), (dn, 24, cnA M), (mn, 31, cnA M), (xn, 24, cnA X)] w8) := D
  go_cut [14, 15, 16] (fun s14 s15 s16 wx => ∃ g, s14 = .pointer (some ⟨g, 0, none⟩) ∧ s15 = .bool bX ∧ s16 = .int .i64 eX ∧ Hid (Bx w ([(bc, 24, cnA C), (ba, 27, akA r y), (dn, 24, cnA M), (mn, 31, cnA M), (xn, 24, cnA X)] ++ [(g, 31, cnA X)]) wx))
  case first =>
    have D0 := D
    have D : Hid (Bx w [(bc, 24, cnA C), (ba, 27, akA r y), (dn, 24, cnA M), (mn, 31, cnA M), (xn, 24, cnA X)] w8.drew) := Lib.hid (D.out.on (Kept.refl _).drew)
    have HS : Hid (∀ V, Bx w [(bc, 24, cnA C), (ba, 27, akA r y), (dn, 24, cnA M), (mn, 31, cnA M), (xn, 24, cnA X)] V → (V.cell? ⟨bc, 0, none⟩ = some (.int .i64 C.s) ∧ V.cell? ⟨bc, 1, none⟩ = some (.int .i64 C.a) ∧ V.cell? ⟨bc, 2, none⟩ = some (.int .i64 C.b) ∧ V.cell? ⟨bc, 3, none⟩ = some (.int .i64 C.c) ∧ V.cell? ⟨bc, 4, none⟩ = some (.bool C.f) ∧ V.cell? ⟨ba, 0, none⟩ = some (.int .i64 r.d) ∧ V.cell? ⟨ba, 1, none⟩ = some (.slice r.A r.n r.c) ∧ V.cell? ⟨ba, 2, none⟩ = some (.bool y.m) ∧ V.cell? ⟨ba, 3, none⟩ = some (.int .i64 y.a) ∧ V.cell? ⟨ba, 4, none⟩ = some (.int .i64 y.b) ∧ V.cell? ⟨ba, 5, none⟩ = some (.int .i64 y.c))) := Lib.hid (fun V h => ⟨(h.get 0 rfl).cell 0, (h.get 0 rfl).cell 1, (h.get 0 rfl).cell 2, (h.get 0 rfl).cell 3, (h.get 0 rfl).cell 4, (h.get 1 rfl).cell 0, (h.get 1 rfl).cell 1, (h.get 1 rfl).cell 2, (h.get 1 rfl).cell 3, (h.get 1 rfl).cell 4, (h.get 1 rfl).cell 5⟩)
    have HN : Hid (∀ V e, Bx w ([(bc, 24, cnA C), (ba, 27, akA r y), (dn, 24, cnA M), (mn, 31, cnA M), (xn, 24, cnA X)] ++ [e]) V → (V.cell? ⟨bc, 0, none⟩ = some (.int .i64 C.s) ∧ V.cell? ⟨bc, 1, none⟩ = some (.int .i64 C.a) ∧ V.cell? ⟨bc, 2, none⟩ = some (.int .i64 C.b) ∧ V.cell? ⟨bc, 3, none⟩ = some (.int .i64 C.c) ∧ V.cell? ⟨bc, 4, none⟩ = some (.bool C.f) ∧ V.cell? ⟨ba, 0, none⟩ = some (.int .i64 r.d) ∧ V.cell? ⟨ba, 1, none⟩ = some (.slice r.A r.n r.c) ∧ V.cell? ⟨ba, 2, none⟩ = some (.bool y.m) ∧ V.cell? ⟨ba, 3, none⟩ = some (.int .i64 y.a) ∧ V.cell? ⟨ba, 4, none⟩ = some (.int .i64 y.b) ∧ V.cell? ⟨ba, 5, none⟩ = some (.int .i64 y.c))) := Lib.hid (fun V e h => ⟨(h.get 0 rfl).cell 0, (h.get 0 rfl).cell 1, (h.get 0 rfl).cell 2, (h.get 0 rfl).cell 3, (h.get 0 rfl).cell 4, (h.get 1 rfl).cell 0, (h.get 1 rfl).cell 1, (h.get 1 rfl).cell 2, (h.get 1 rfl).cell 3, (h.get 1 rfl).cell 4, (h.get 1 rfl).cell 5⟩)
    have HF : Hid (∀ V g, Bx w ([(bc, 24, cnA C), (ba, 27, akA r y), (dn, 24, cnA M), (mn, 31, cnA M), (xn, 24, cnA X)] ++ [(g, 31, zA)]) V → Bx w ([(bc, 24, cnA C), (ba, 27, akA r y), (dn, 24, cnA M), (mn, 31, cnA M), (xn, 24, cnA X)] ++ [(g, 31, cnA X)]) (((((V.setCell ⟨g, 0, none⟩ (.int .i64 X.s)).setCell ⟨g, 1, none⟩ (.int .i64 X.a)).setCell ⟨g, 2, none⟩ (.int .i64 X.b)).setCell ⟨g, 3, none⟩ (.int .i64 X.c)).setCell ⟨g, 4, none⟩ (.bool X.f))) := Lib.hid (fun V g h => five h 5 rfl rfl X)
    go_region_held3 (fun V => V.cell? ⟨bc, 0, none⟩ = some (.int .i64 C.s) ∧ V.cell? ⟨bc, 1, none⟩ = some (.int .i64 C.a) ∧ V.cell? ⟨bc, 2, none⟩ = some (.int .i64 C.b) ∧ V.cell? ⟨bc, 3, none⟩ = some (.int .i64 C.c) ∧ V.cell? ⟨bc, 4, none⟩ = some (.bool C.f) ∧ V.cell? ⟨ba, 0, none⟩ = some (.int .i64 r.d) ∧ V.cell? ⟨ba, 1, none⟩ = some (.slice r.A r.n r.c) ∧ V.cell? ⟨ba, 2, none⟩ = some (.bool y.m) ∧ V.cell? ⟨ba, 3, none⟩ = some (.int .i64 y.a) ∧ V.cell? ⟨ba, 4, none⟩ = some (.int .i64 y.b) ∧ V.cell? ⟨ba, 5, none⟩ = some (.int .i64 y.c))
      (first | with_reducible exact HN.out _ _ (HF.out _ _ N.out) | with_reducible exact HN.out _ _ N.out | with_reducible exact HS.out _ D.out | with_reducible exact HN.out _ _ (D.out.new _ _))
      (first
        | (go_at_call 10; (with_reducible refine (ko.out _).mono ?_); rintro e w' ⟨rfl, hk⟩; have N := Lib.hid (N.out.on hk); clear hk; have B := N.out.get 5 rfl; have z0 := B.cell 0; have y0 := B.frozen 0; have z1 := B.cell 1; have y1 := B.frozen 1; have z2 := B.cell 2; have y2 := B.frozen 2; have z3 := B.cell 3; have y3 := B.frozen 3; have z4 := B.cell 4; have y4 := B.frozen 4; have tz := B.lt; clear B)
        | (go_at_call 10; (with_reducible refine (ko.out (w8.alloc (.cells zA 31)).drew).mono ?_); rintro e w' ⟨rfl, hk⟩; have N := Lib.hid (((D0.out.new 31 zA).on (Kept.refl _).drew).on hk); clear hk; have B := N.out.get 5 rfl; have z0 := B.cell 0; have y0 := B.frozen 0; have z1 := B.cell 1; have y1 := B.frozen 1; have z2 := B.cell 2; have y2 := B.frozen 2; have z3 := B.cell 3; have y3 := B.frozen 3; have z4 := B.cell 4; have y4 := B.frozen 4; have tz := B.lt; clear B)
        | (go_at_call 10; (with_reducible refine (ko.out (World.alloc _ (.cells zA 31))).mono ?_); rintro e w' ⟨rfl, hk⟩; have N := Lib.hid ((D.out.new 31 zA).on hk); clear hk; have B := N.out.get 5 rfl; have z0 := B.cell 0; have y0 := B.frozen 0; have z1 := B.cell 1; have y1 := B.frozen 1; have z2 := B.cell 2; have y2 := B.frozen 2; have z3 := B.cell 3; have y3 := B.frozen 3; have z4 := B.cell 4; have y4 := B.frozen 4; have tz := B.lt; clear B)
        | (go_at_call 10; (with_reducible refine (ko.out _).mono ?_); rintro e w' ⟨rfl, hk⟩; have D := Lib.hid (D.out.on hk); clear hk)
        | (go_at_call 12; (with_reducible refine (k4.out _).mono ?_); rintro e w' ⟨rfl, hk⟩; have N := Lib.hid (N.out.on hk); clear hk; have B := N.out.get 5 rfl; have z0 := B.cell 0; have y0 := B.frozen 0; have z1 := B.cell 1; have y1 := B.frozen 1; have z2 := B.cell 2; have y2 := B.frozen 2; have z3 := B.cell 3; have y3 := B.frozen 3; have z4 := B.cell 4; have y4 := B.frozen 4; have tz := B.lt; clear B)
        | (go_at_call 12; (with_reducible refine (k4.out (World.alloc _ (.cells zA 31))).mono ?_); rintro e w' ⟨rfl, hk⟩; have N := Lib.hid ((D.out.new 31 zA).on hk); clear hk; have B := N.out.get 5 rfl; have z0 := B.cell 0; have y0 := B.frozen 0; have z1 := B.cell 1; have y1 := B.frozen 1; have z2 := B.cell 2; have y2 := B.frozen 2; have z3 := B.cell 3; have y3 := B.frozen 3; have z4 := B.cell 4; have y4 := B.frozen 4; have tz := B.lt; clear B)
        | (go_at_call 12; (with_reducible refine (k4.out _).mono ?_); rintro e w' ⟨rfl, hk⟩; have D := Lib.hid (D.out.on hk); clear hk))
    all_goals
      go_wp2_with fail
      go_meet
      first
        | exact ⟨_, rfl, rfl, rfl, Lib.hid (HF.out _ _ N.out)⟩
        | exact ⟨_, rfl, rfl, rfl, Lib.hid (D.out.new 31 (cnA X))⟩
  case rest =>
  clear D
  obtain ⟨yn, rfl, rfl, rfl, D⟩ := hcut
  have D : Hid (Bx w [(bc, 24, cnA C), (ba, 27, akA r y), (dn, 24, cnA M), (mn, 31, cnA M), (xn, 24, cnA X), (yn, 31, cnA X)] wc) := D
  go_wp2_with fail
  have D : Hid (Bx w [(bc, 24, cnA C), (ba, 27, akA r y), (dn, 24, cnA M), (mn, 31, cnA M), (xn, 24, cnA X), (yn, 31, cnA X)] wc.drew) := Lib.hid (D.out.on (Kept.refl _).drew)
  have HS : Hid (∀ V, Bx w [(bc, 24, cnA C), (ba, 27, akA r y), (dn, 24, cnA M), (mn, 31, cnA M), (xn, 24, cnA X), (yn, 31, cnA X)] V → (V.cell? ⟨bc, 0, none⟩ = some (.int .i64 C.s) ∧ V.cell? ⟨bc, 1, none⟩ = some (.int .i64 C.a) ∧ V.cell? ⟨bc, 2, none⟩ = some (.int .i64 C.b) ∧ V.cell? ⟨bc, 3, none⟩ = some (.int .i64 C.c) ∧ V.cell? ⟨bc, 4, none⟩ = some (.bool C.f) ∧ V.cell? ⟨dn, 0, none⟩ = some (.int .i64 M.s) ∧ V.cell? ⟨dn, 1, none⟩ = some (.int .i64 M.a) ∧ V.cell? ⟨dn, 2, none⟩ = some (.int .i64 M.b) ∧ V.cell? ⟨dn, 3, none⟩ = some (.int .i64 M.c) ∧ V.cell? ⟨dn, 4, none⟩ = some (.bool M.f) ∧ V.cell? ⟨mn, 0, none⟩ = some (.int .i64 M.s) ∧ V.cell? ⟨mn, 1, none⟩ = some (.int .i64 M.a) ∧ V.cell? ⟨mn, 2, none⟩ = some (.int .i64 M.b) ∧ V.cell? ⟨mn, 3, none⟩ = some (.int .i64 M.c) ∧ V.cell? ⟨mn, 4, none⟩ = some (.bool M.f) ∧ V.cell? ⟨xn, 0, none⟩ = some (.int .i64 X.s) ∧ V.cell? ⟨xn, 1, none⟩ = some (.int .i64 X.a) ∧ V.cell? ⟨xn, 2, none⟩ = some (.int .i64 X.b) ∧ V.cell? ⟨xn, 3, none⟩ = some (.int .i64 X.c) ∧ V.cell? ⟨xn, 4, none⟩ = some (.bool X.f) ∧ V.cell? ⟨yn, 0, none⟩ = some (.int .i64 X.s) ∧ V.cell? ⟨yn, 1, none⟩ = some (.int .i64 X.a) ∧ V.cell? ⟨yn, 2, none⟩ = some (.int .i64 X.b) ∧ V.cell? ⟨yn, 3, none⟩ = some (.int .i64 X.c) ∧ V.cell? ⟨yn, 4, none⟩ = some (.bool X.f))) := Lib.hid (fun V h => ⟨(h.get 0 rfl).cell 0, (h.get 0 rfl).cell 1, (h.get 0 rfl).cell 2, (h.get 0 rfl).cell 3, (h.get 0 rfl).cell 4, (h.get 2 rfl).cell 0, (h.get 2 rfl).cell 1, (h.get 2 rfl).cell 2, (h.get 2 rfl).cell 3, (h.get 2 rfl).cell 4, (h.get 3 rfl).cell 0, (h.get 3 rfl).cell 1, (h.get 3 rfl).cell 2, (h.get 3 rfl).cell 3, (h.get 3 rfl).cell 4, (h.get 4 rfl).cell 0, (h.get 4 rfl).cell 1, (h.get 4 rfl).cell 2, (h.get 4 rfl).cell 3, (h.get 4 rfl).cell 4, (h.get 5 rfl).cell 0, (h.get 5 rfl).cell 1, (h.get 5 rfl).cell 2, (h.get 5 rfl).cell 3, (h.get 5 rfl).cell 4⟩)
  go_region_held3 (fun V => V.cell? ⟨bc, 0, none⟩ = some (.int .i64 C.s) ∧ V.cell? ⟨bc, 1, none⟩ = some (.int .i64 C.a) ∧ V.cell? ⟨bc, 2, none⟩ = some (.int .i64 C.b) ∧ V.cell? ⟨bc, 3, none⟩ = some (.int .i64 C.c) ∧ V.cell? ⟨bc, 4, none⟩ = some (.bool C.f) ∧ V.cell? ⟨dn, 0, none⟩ = some (.int .i64 M.s) ∧ V.cell? ⟨dn, 1, none⟩ = some (.int .i64 M.a) ∧ V.cell? ⟨dn, 2, none⟩ = some (.int .i64 M.b) ∧ V.cell? ⟨dn, 3, none⟩ = some (.int .i64 M.c) ∧ V.cell? ⟨dn, 4, none⟩ = some (.bool M.f) ∧ V.cell? ⟨mn, 0, none⟩ = some (.int .i64 M.s) ∧ V.cell? ⟨mn, 1, none⟩ = some (.int .i64 M.a) ∧ V.cell? ⟨mn, 2, none⟩ = some (.int .i64 M.b) ∧ V.cell? ⟨mn, 3, none⟩ = some (.int .i64 M.c) ∧ V.cell? ⟨mn, 4, none⟩ = some (.bool M.f) ∧ V.cell? ⟨xn, 0, none⟩ = some (.int .i64 X.s) ∧ V.cell? ⟨xn, 1, none⟩ = some (.int .i64 X.a) ∧ V.cell? ⟨xn, 2, none⟩ = some (.int .i64 X.b) ∧ V.cell? ⟨xn, 3, none⟩ = some (.int .i64 X.c) ∧ V.cell? ⟨xn, 4, none⟩ = some (.bool X.f) ∧ V.cell? ⟨yn, 0, none⟩ = some (.int .i64 X.s) ∧ V.cell? ⟨yn, 1, none⟩ = some (.int .i64 X.a) ∧ V.cell? ⟨yn, 2, none⟩ = some (.int .i64 X.b) ∧ V.cell? ⟨yn, 3, none⟩ = some (.int .i64 X.c) ∧ V.cell? ⟨yn, 4, none⟩ = some (.bool X.f))
    (with_reducible exact HS.out _ D.out)
    (first
      | (go_at_call 13; (with_reducible refine (k5.out _).mono ?_); rintro e w' ⟨rfl, hk⟩; have D := Lib.hid (D.out.on hk); clear hk)
      | (go_at_call 10; (with_reducible refine (ko.out _).mono ?_); rintro e w' ⟨rfl, hk⟩; have D := Lib.hid (D.out.on hk); clear hk)
      | (go_at_call 10; (with_reducible refine (kM.out _).mono ?_); rintro e w' ⟨rfl, hk⟩; have D := Lib.hid (D.out.on hk); clear hk)
      | (go_at_call 10; (with_reducible refine (kX.out _).mono ?_); rintro e w' ⟨rfl, hk⟩; have D := Lib.hid (D.out.on hk); clear hk)
      | (go_at_call 14; (with_reducible refine (k6.out _).mono ?_); rintro e w' ⟨rfl, hk⟩; have D := Lib.hid (D.out.on hk); clear hk)
      | (go_at_call 15; (with_reducible refine (works_any _).mono ?_); rintro e w' ⟨rfl, hk⟩; have D := Lib.hid (D.out.on hk); clear hk))
  all_goals
    go_wp2_with fail
    go_ret
    exact ⟨rfl, D.out.K⟩
theorem ecnTells_any (C : Cn) (r : Rs) (y : Fr) (n : Int) (w : World) : Calls Try.prog 3 #[cnV C, akV r y, .int .i64 n] w fun e w' => e = .returned (.bool true) ∧ Kept w w' := tells_any C r y n w
end Go.Proofs.Ytbclpjfjkgehaaa.Law
